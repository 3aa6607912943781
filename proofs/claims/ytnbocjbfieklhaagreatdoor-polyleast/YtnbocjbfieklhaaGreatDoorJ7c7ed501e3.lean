/-
  Texts of mine, joined: what lies beneath the statement.
-/
import Derived.Test.YtnbocjbfieklhaaGreatDoorJ33a96b749f
import Derived.Test.YtnbocjbfieklhaaGreatDoorJ6bc279ad15
namespace Go.Proofs.YtnbocjbfieklhaaGreatDoor
open Go.RowKit
set_option linter.unusedVariables false
set_option linter.unusedSimpArgs false
set_option maxRecDepth 20000 in
set_option maxHeartbeats 1000000 in
theorem number4_at (p : Bool) (s t : Value) (n m : Nat) (f g : Nat → Int) (w : World) (h : Raw w s n f) (k : Raw w t m g) :
  Calls Tryz.prog 25 #[.agg #[.bool p,s,t]] w fun e w' => FewOut p (min n 2) (min m 2) f g w e w' := by
 have hA : ∀ o o',Below w.heap.size w ((w.alloc o).alloc o') := fun o o' => ((Below.refl _ _).alloc (Nat.le_refl _) _).alloc (by simp) _
 obtain ⟨ao,c,rfl,hnil,hnc,hcm,hu,h4⟩ := h
 obtain ⟨bo,d,rfl,knil,knc,kcm,ku,k4⟩ := k
 unfold maxLen at hcm kcm
 by_cases hlt : 2 < n
 ·obtain ⟨b1,off1,rfl,hc⟩ := h4 (by omega)
  have hN : Nums .u64 w (.slice (some ⟨b1,off1,none⟩) 2 c) 2 f := ⟨_,_,rfl,by omega,by unfold LIM; omega,fun _ => ⟨_,_,rfl,hc.mono (by omega)⟩⟩
  have hi : (n : Int) > 2 := by omega
  rw [show min n 2 = 2 by omega]
  by_cases klt : 2 < m
  ·obtain ⟨b2,off2,rfl,kc⟩ := k4 (by omega)
   have kN : Nums .u64 w (.slice (some ⟨b2,off2,none⟩) 2 d) 2 g := ⟨_,_,rfl,by omega,by unfold LIM; omega,fun _ => ⟨_,_,rfl,kc.mono (by omega)⟩⟩
   have ki : (m : Int) > 2 := by omega
   rw [show min m 2 = 2 by omega]
   go_enter Tryz.func25,Tryz.ntmps25
   go_wp2
   refine bodyPost_ret (v := .agg #[.bool p,.slice (some ⟨b1,off1,none⟩) 2 c,.slice (some ⟨b2,off2,none⟩) 2 d]) (by simp [results,go_sem]) rfl ?_
   exact ⟨_,_,_,_,rfl,hN.below (hA _ _),fun i hi => hu i (by omega),kN.below (hA _ _),fun i hi => ku i (by omega),hA _ _⟩
  ·have kN : Nums .u64 w (.slice bo m d) m g := ⟨_,_,rfl,knc,by unfold LIM; omega,k4⟩
   have ki : ¬ (m : Int) > 2 := by omega
   rw [show min m 2 = m by omega]
   go_enter Tryz.func25,Tryz.ntmps25
   go_wp2
   refine bodyPost_ret (v := .agg #[.bool p,.slice (some ⟨b1,off1,none⟩) 2 c,.slice bo m d]) (by simp [results,go_sem]) rfl ?_
   exact ⟨_,_,_,_,rfl,hN.below (hA _ _),fun i hi => hu i (by omega),kN.below (hA _ _),fun i hi => ku i (by omega),hA _ _⟩
 ·have hN : Nums .u64 w (.slice ao n c) n f := ⟨_,_,rfl,hnc,by unfold LIM; omega,h4⟩
  have hi : ¬ (n : Int) > 2 := by omega
  rw [show min n 2 = n by omega]
  by_cases klt : 2 < m
  ·obtain ⟨b2,off2,rfl,kc⟩ := k4 (by omega)
   have kN : Nums .u64 w (.slice (some ⟨b2,off2,none⟩) 2 d) 2 g := ⟨_,_,rfl,by omega,by unfold LIM; omega,fun _ => ⟨_,_,rfl,kc.mono (by omega)⟩⟩
   have ki : (m : Int) > 2 := by omega
   rw [show min m 2 = 2 by omega]
   go_enter Tryz.func25,Tryz.ntmps25
   go_wp2
   refine bodyPost_ret (v := .agg #[.bool p,.slice ao n c,.slice (some ⟨b2,off2,none⟩) 2 d]) (by simp [results,go_sem]) rfl ?_
   exact ⟨_,_,_,_,rfl,hN.below (hA _ _),fun i hi => hu i (by omega),kN.below (hA _ _),fun i hi => ku i (by omega),hA _ _⟩
  ·have kN : Nums .u64 w (.slice bo m d) m g := ⟨_,_,rfl,knc,by unfold LIM; omega,k4⟩
   have ki : ¬ (m : Int) > 2 := by omega
   rw [show min m 2 = m by omega]
   go_enter Tryz.func25,Tryz.ntmps25
   go_wp2
   refine bodyPost_ret (v := .agg #[.bool p,.slice ao n c,.slice bo m d]) (by simp [results,go_sem]) rfl ?_
   exact ⟨_,_,_,_,rfl,hN.below (hA _ _),fun i hi => hu i (by omega),kN.below (hA _ _),fun i hi => ku i (by omega),hA _ _⟩
set_option maxRecDepth 20000 in
set_option maxHeartbeats 4000000 in
theorem few4_at (v : Value) (n K : Nat) (q : Nat → Rat) (w : World) (hv : RawQ w v n q 2) (hK : K ≤ 100) :
  Calls Tryz.prog 9 #[v,.int .i64 (K : Int)] w fun e w' => ∃ r,e = .returned r ∧ QOwn w.heap.size w' r (min n K) q 2 ∧ Below w.heap.size w w' := by
 have HV : Hid (RawQ w v n q 2) := hv
 obtain ⟨el,⟨a,c,rfl,hnc,hcm,_⟩,_⟩ := hv
 go_enter Tryz.func9,Tryz.ntmps9
 go_wp2
 go_loopw [5,6] (fun vm vi wr => ∃ i : Nat,i ≤ n ∧ i ≤ K ∧ vi = .int .i64 (i : Int) ∧ QOwn w.heap.size wr vm i q 2 ∧ Below w.heap.size w wr) (fun _ vi _ => K - (intOf vi).toNat)
 case atStart => exact ⟨0,by omega,by omega,rfl,QOwn.nil _ _ _ _,Below.refl _ _⟩
 case round =>
  obtain ⟨i,hin,hi12,rfl,O,B⟩ := hrel
  by_cases hgo : i < n ∧ i < K
  ·have j1 : (i : Int) < (n : Int) := by omega
   have j2 : (i : Int) < (K : Int) := by omega
   have i0 : (0 : Int) ≤ (i : Int) := by omega
   obtain ⟨b,off,cc,s,ao1,l,d1,bo1,k1,e1,f,g,hvv,hcc,x0,x1,x2,hraw,hraw2,hz⟩ := HV.out.at i hgo.1
   cases hvv
   have HC : E3 w b (off + i * 3) (.bool s) (.slice ao1 l d1) (.slice bo1 k1 e1) := ⟨x0,x1,x2⟩
   clear x0 x1 x2
   have HZ : Hid (q i = mkRat (zof s (num f (min l 2))) (num g (min k1 2))) := hz
   clear hz
   have r1 := hraw.below B
   have r2 := hraw2.below B
   obtain ⟨x0,x1,x2⟩ := HC.below B
   go_wp2_with fail
   clear x0 x1 x2
   refine (number4_at _ _ _ _ _ _ _ _ r1 r2).mono ?_
   rintro e w4 ⟨ao4,c4,bo4,d4,rfl,hu4,uf4,hv4,vf4,b4⟩
   have X4 : RatAt w4 (.agg #[.bool s,.slice ao4 (min l 2) c4,.slice bo4 (min k1 2) d4]) (q i) 2 := by rw [HZ.out]; exact RatAt.raw hu4 uf4 hv4 vf4 (Nat.min_le_right _ _) (Nat.min_le_right _ _)
   clear hu4 uf4 hv4 vf4
   generalize min l 2 = l4 at X4 ⊢
   generalize min k1 2 = k4 at X4 ⊢
   obtain ⟨us,el',o1,o2,o3,o4⟩ := O
   have hul : us.length = i * 3 := o1.1
   have HO3 : Hid (∀ i',i' < i → ∀ j,j < 3 → us[i' * 3 + j]? = some (el' i' j)) := o3
   have HO4 : Hid (∀ i',i' < i → RatAt wr (.agg #[el' i' 0,el' i' 1,el' i' 2]) (q i') 2) := o4
   have b4' : Below wr.heap.size wr (w4.alloc (.cells #[.bool s,.slice ao4 l4 c4,.slice bo4 k4 d4] 35)) := b4.alloc b4.size _
   have hPO : Hid (∀ g0,Value.ownBlock u5 = some g0 → PureB IsNum (w4.alloc (.cells #[.bool s,.slice ao4 l4 c4,.slice bo4 k4 d4] 35)) g0) := fun g0 hg0 => (o2 g0 hg0).below b4' (o1.lt g0 hg0).2
   have hlt : Hid (∀ g0,Value.ownBlock u5 = some g0 → w.heap.size ≤ g0) := fun g0 hg0 => (o1.lt g0 hg0).1
   clear o2 o3 o4 r1 r2
   go_wp2_with (at_builtin; refine wpList_append_pure (Q' := IsNum) rfl _ _ _ rfl w.heap.size 35 (.agg #[.bool false,.slice none 0 0,.slice none 0 0]) 3 56 Tryz.underlying22 info_wrat rfl (by omega) u5 rfl i us ((owns_later o1 b4).alloc _) hPO.out ⟨w4.heap.size,0,none⟩ 1 rfl [.bool s,.slice ao4 l4 c4,.slice bo4 k4 d4] rfl (news_block (heap_alloc_new _ _)) (by simp [Value.oneCell']) (by simp [num_slice,num_bool]) (by simp [Value.cells,num_slice,num_bool]) (by omega) (by omega) (by have := B.size; have := b4'.size; simp at this ⊢; omega) ?_)
   intro g5 cap5 w5 ho5 hg5 hat5 hp5 hk5
   have E : QOwn w.heap.size w5 (.slice (some ⟨g5,0,none⟩) (i + 1) cap5) (i + 1) q 2 := QOwn.more ho5 hp5 hul HO3.out (fun i' hi' => (HO4.out i' hi').below b4') (X4.below ((Below.refl _ _).alloc (Nat.le_refl _) _)) hk5
   have B4 := B.trans (b4'.mono B.size)
   have BB : Below w.heap.size w w5 := below_grownB B4 hg5 (by have := B4.size; omega) (fun g0 hg0 => by have := hlt.out g0 hg0; omega)
   clear o1 hPO hlt HO3 HO4 b4 b4' X4 ho5 hg5 hat5 hp5 hk5 B B4 hul HC hraw hraw2
   go_wp2
   go_roundw
   case rel => exact ⟨i + 1,by omega,by omega,by go_num,E,BB⟩
   case measure => simp [intOf]; omega
  ·have hmn : min n K = i := by omega
   by_cases h1 : i < n
   ·have j1 : (i : Int) < (n : Int) := by omega
    have j2 : ¬ (i : Int) < (K : Int) := by omega
    have j3 : decide ((i : Int) < (K : Int)) = false := decide_eq_false j2
    have j4 : decide (i < K) = false := decide_eq_false (by omega)
    go_wp2
    go_ret
    exact ⟨_,rfl,O,B⟩
   ·have j1 : ¬ (i : Int) < (n : Int) := by omega
    have j3 : decide ((i : Int) < (n : Int)) = false := decide_eq_false j1
    have j4 : decide (i < n) = false := decide_eq_false h1
    go_wp2
    go_ret
    exact ⟨_,rfl,O,B⟩
set_option maxRecDepth 20000 in
set_option maxHeartbeats 2000000 in
theorem at4_in (v : Value) (n i : Nat) (q : Nat → Rat) (L : Nat) (w : World) (hv : QRow w v n q L) (hlt : i < n) (hn : n ≤ 1000000) :
  Calls Tryz.prog 39 #[v,.int .i64 (i : Int)] w fun e w' => ∃ r,e = .returned r ∧ RatAt w' r (q i) L ∧ Below w.heap.size w w' := by
 obtain ⟨b,off,cc,p1,ao1,m1,d1,bo1,k1,e1,hvv,hcc,XC,Hi⟩ := hv.at i hlt
 cases hvv
 have c1 : (i : Int) < (n : Int) := by omega
 have c2 : (0 : Int) ≤ (i : Int) := by omega
 have A1 : Below w.heap.size w (w.alloc (.cells #[.bool p1,.slice ao1 m1 d1,.slice bo1 k1 e1] 35)) := (Below.refl _ _).alloc (Nat.le_refl _) _
 have Hi2 := Hi.below A1
 have A0 : Below w.heap.size w (w.alloc (.cells #[.bool false,.slice none 0 0,.slice none 0 0] 35)) := (Below.refl _ _).alloc (Nat.le_refl _) _
 obtain ⟨x0,x1,x2⟩ := XC.below A0
 clear hv Hi A0
 go_enter Tryz.func39,Tryz.ntmps39
 go_wp2
 refine bodyPost_ret (v := .agg #[.bool p1,.slice ao1 m1 d1,.slice bo1 k1 e1]) (by simp [results,go_sem]) rfl ?_
 exact ⟨_,rfl,Hi2,A1⟩
set_option maxRecDepth 20000 in
set_option maxHeartbeats 2000000 in
theorem at4_out (v : Value) (n i : Nat) (q : Nat → Rat) (L : Nat) (w : World) (hv : QRow w v n q L) (hlt : ¬ i < n) (hi : i ≤ 1000000) :
  Calls Tryz.prog 39 #[v,.int .i64 (i : Int)] w fun e w' => ∃ r,e = .returned r ∧ RepQ w' r 0 ∧ Below w.heap.size w w' := by
 obtain ⟨ao,c,rfl,hnc,hc63,hsome⟩ := hv.open
 have c1 : ¬ (i : Int) < (n : Int) := by omega
 have c2 : (0 : Int) ≤ (i : Int) := by omega
 have c3 : decide ((i : Int) < (n : Int)) = false := decide_eq_false c1
 have c4 : decide (i < n) = false := decide_eq_false hlt
 clear hv hsome
 have BB : Below w.heap.size w w := Below.refl _ _
 obtain ⟨Wb0,hW0,hS0,hL0,VR⟩ := V3.lay w 35 (.bool false) (.slice none 0 0) (.slice none 0 0)
 replace BB := BB.trans (hL0.mono BB.size)
 clear hL0
 go_enter Tryz.func39,Tryz.ntmps39
 go_wp2_with fail
 rw [← hW0]
 clear hW0 hS0
 refine (qzero_at _).mono ?_
 rintro e w1 ⟨x1,rfl,h1,b1⟩
 replace VR := VR.below b1
 replace BB := BB.trans (b1.mono BB.size)
 clear b1
 obtain ⟨p1,a1,n1,c1_,b1,m1,d1,rfl⟩ := h1.open
 have hKp := VR.keepJ (.bool p1) (.slice a1 n1 c1_) (.slice b1 m1 d1)
 have h1_n := h1.keep hKp
 have BB_n := below_store3 (R := w.heap.size) BB (by omega) (.bool p1) (.slice a1 n1 c1_) (.slice b1 m1 d1)
 clear hKp
 obtain ⟨q1,q2,q3,q4,q5,q6⟩ := id VR
 go_wp2
 (try simp only [Exit.inBlock,Exit.then])
 refine bodyPost_ret (v := .agg #[.bool p1,.slice a1 n1 c1_,.slice b1 m1 d1]) (by simp [results,go_sem,q1,q2,q3]) rfl ?_
 exact ⟨_,rfl,h1_n,BB_n⟩
theorem at4_at (v : Value) (n i : Nat) (q : Nat → Rat) (L : Nat) (w : World) (hv : QRow w v n q L) (hn : n ≤ 1000000) (hi : i ≤ 1000000) (hL : 1 ≤ L) :
  Calls Tryz.prog 39 #[v,.int .i64 (i : Int)] w fun e w' => ∃ r,e = .returned r ∧ RatAt w' r (co n q i) L ∧ Below w.heap.size w w' := by
 by_cases h : i < n
 ·have e : co n q i = q i := by unfold co; rw [if_pos h]
  rw [e]; exact at4_in v n i q L w hv h hn
 ·have e : co n q i = 0 := by unfold co; rw [if_neg h]
  rw [e]
  refine (at4_out v n i q L w hv h hi).mono ?_
  rintro e w' ⟨r,rfl,hr,hb⟩
  exact ⟨r,rfl,hr.at L (Nat.le_trans (by decide +kernel) hL),hb⟩

set_option maxRecDepth 20000 in
set_option maxHeartbeats 1000000 in
theorem qright_k (K : Nat) (hK : K ≤ 900000) (p : Bool) (ao : Option Addr) (n c : Nat) (bo : Option Addr) (m d : Nat) (f g : Nat → Int) (w : World) (h1 : Nums .u64 w (.slice ao n c) n f) (f1 : U64 n f) (k1 : n ≤ K) (h2 : Nums .u64 w (.slice bo m d) m g) (f2 : U64 m g) (k2 : m ≤ K) (ht : Tab w) (hA : (rightB f n && !(p && decide (num f n = 0))) = true) (hB : rightB g m = true) (hC : num g m ≠ 0) :
  Calls Tryz.prog 29 #[.agg #[.bool p,.slice ao n c,.slice bo m d]] w fun e w' => e = .returned (.bool (decide (Nat.gcd (num f n) (num g m) = 1))) ∧ Below w.heap.size w w' := by
 have BB : Below w.heap.size w w := Below.refl _ _
 obtain ⟨Wb0,hW0,hS0,hL0,VA⟩ := V3.lay w 35 (.bool p) (.slice ao n c) (.slice bo m d)
 replace h1 := h1.below hL0
 replace h2 := h2.below hL0
 replace ht := ht.below hL0
 replace BB := BB.trans (hL0.mono BB.size)
 clear hL0
 go_enter Tryz.func29,Tryz.ntmps29
 go_wp2_with fail
 rw [← hW0]
 clear hW0 hS0
 refine (wright_any p ao n c f _ h1 f1).mono ?_
 rintro e w1 ⟨rfl,b1⟩
 replace h1 := h1.below b1
 replace h2 := h2.below b1
 replace ht := ht.below b1
 replace VA := VA.below b1
 replace BB := BB.trans (b1.mono BB.size)
 clear b1
 rw [hA]
 obtain ⟨VA_0,VA_1,VA_2,VA_3,VA_4,VA_5⟩ := id VA
 go_wp2_with fail
 clear VA_0 VA_1 VA_2 VA_3 VA_4 VA_5
 refine (right_any _ _ _ _ h2).mono ?_
 rintro e wx ⟨rfl,hwx⟩
 replace hwx := hwx.symm
 subst hwx
 rw [hB]
 obtain ⟨VA_0,VA_1,VA_2,VA_3,VA_4,VA_5⟩ := id VA
 go_wp2_with fail
 clear VA_0 VA_1 VA_2 VA_3 VA_4 VA_5
 refine (nzero_at _ (num g m) K _ ⟨_,_,h2,f2,rfl,k2⟩).mono ?_
 rintro e wx ⟨rfl,hwx⟩
 replace hwx := hwx.symm
 subst hwx
 rw [decide_eq_false hC]
 obtain ⟨VA_0,VA_1,VA_2,VA_3,VA_4,VA_5⟩ := id VA
 go_wp2_with fail
 clear VA_0 VA_1 VA_2 VA_3 VA_4 VA_5
 refine (ngcd_at _ _ (num f n) (num g m) K K _ ⟨_,_,h1,f1,rfl,k1⟩ ⟨_,_,h2,f2,rfl,k2⟩ (by omega) (by omega) ht).mono ?_
 rintro e w2 ⟨r,rfl,hr,b2⟩
 replace h1 := h1.below b2
 replace h2 := h2.below b2
 replace ht := ht.below b2
 replace VA := VA.below b2
 replace BB := BB.trans (b2.mono BB.size)
 clear b2
 go_wp2_with fail
 refine (isOne_at _ _ _ _ (hr.at _ (Nat.le_refl _))).mono ?_
 rintro e w3 ⟨rfl,b3⟩
 replace h1 := h1.below b3
 replace h2 := h2.below b3
 replace ht := ht.below b3
 replace hr := hr.below b3
 replace VA := VA.below b3
 replace BB := BB.trans (b3.mono BB.size)
 clear b3
 go_wp2
 go_ret
 exact ⟨rfl,BB⟩
theorem qright_rep (v : Value) (q : Rat) (w : World) (hv : RepQ w v q) (hL : qsz q ≤ 900000) (ht : Tab w) :
  Calls Tryz.prog 29 #[v] w fun e w' => e = .returned (.bool true) ∧ Below w.heap.size w w' := by
 obtain ⟨p,ao,n,c,bo,m,d,rfl⟩ := hv.open
 obtain ⟨h1,h2⟩ := hv.parts
 unfold qsz at hL
 obtain ⟨a1,c1,e1,hR⟩ := h1
 simp only [Value.agg.injEq,Array.mk.injEq,List.cons.injEq,Value.bool.injEq,Value.slice.injEq,and_true] at e1
 obtain ⟨rfl,rfl,rfl,rfl⟩ := e1
 obtain ⟨a2,c2,e2,_⟩ := id h2
 simp only [Value.slice.injEq] at e2
 obtain ⟨rfl,rfl,rfl⟩ := e2
 obtain ⟨K,hK⟩ : ∃ K,K = max (nl W32 q.num.natAbs) (nl W32 q.den) := ⟨_,rfl⟩
 rw [← hK] at hL
 have hg : Nat.gcd q.num.natAbs q.den = 1 := q.reduced
 have hA : (!(decide (q.num < 0) && decide (q.num.natAbs = 0))) = true := by
  by_cases h : q.num < 0
  ·rw [decide_eq_true h,decide_eq_false (by omega)]; rfl
  ·rw [decide_eq_false h]; rfl
 have r := qright_k K hL (decide (q.num < 0)) ao (nl W32 q.num.natAbs) c bo (nl W32 q.den) d (dg W32 q.num.natAbs) (dg W32 q.den) w hR (u64_dg _ _) (by omega) h2 (u64_dg _ _) (by omega) ht (by rw [rightB_rep,num_nl,Bool.true_and]; exact hA) (rightB_rep _) (by rw [num_nl]; exact q.den_nz)
 rw [num_nl,num_nl,decide_eq_true hg] at r
 exact r
set_option maxRecDepth 20000 in
set_option maxHeartbeats 2000000 in
theorem right4_at (v : Value) (n : Nat) (q : Nat → Rat) (w : World) (hv : FRow w v n q) (hs : ∀ i,i < n → qsz (q i) ≤ 100000) (ht : Tab w) (hn : n ≤ 1000000) (htop : 0 < n → q (n - 1) ≠ 0) :
  Calls Tryz.prog 17 #[v] w fun e w' => e = .returned (.bool true) ∧ Below w.heap.size w w' := by
 obtain ⟨ao,c,rfl⟩ := hv.open
 have HS : Hid (∀ i,i < n → qsz (q i) ≤ 100000) := hs
 have HT : Hid (0 < n → q (n - 1) ≠ 0) := htop
 clear hs htop
 go_enter Tryz.func17,Tryz.ntmps17
 go_wp2
 go_loopw [3] (fun vi wr => ∃ k : Nat,k ≤ n ∧ vi = .int .i64 (k : Int) ∧ FRow wr (.slice ao n c) n q ∧ Tab wr ∧ Below w.heap.size w wr) (fun vi _ => n - (intOf vi).toNat)
 case atStart => exact ⟨0,by omega,rfl,hv,ht,Below.refl _ _⟩
 case round =>
  clear hv ht
  obtain ⟨k,hk,rfl,hv,ht,BB⟩ := hrel
  by_cases hlt : k < n
  ·have hi : (k : Int) < (n : Int) := by omega
   have h0 : (0 : Int) ≤ (k : Int) := by omega
   obtain ⟨b,off,cc,p1,ao1,m1,d1,bo1,k1,e1,hvv,hcc,XC,Hi⟩ := hv.at k hlt
   cases hvv
   obtain ⟨x0,x1,x2⟩ := XC
   go_wp2_with fail
   clear x0 x1 x2
   refine (qright_rep _ (q k) _ Hi (Nat.le_trans (HS.out k hlt) (by omega)) ht).mono ?_
   rintro e w1 ⟨rfl,b1⟩
   have hv1 := hv.below b1
   have ht1 := ht.below b1
   have B1 : Below w.heap.size w w1 := BB.trans (b1.mono BB.size)
   clear hv ht BB b1 Hi
   go_wp2
   go_roundw
   case rel => exact ⟨k + 1,by omega,by go_num,hv1,ht1,B1⟩
   case measure => simp [intOf]; omega
  ·have hi : ¬ (k : Int) < (n : Int) := by omega
   have hib : decide ((k : Int) < (n : Int)) = false := decide_eq_false hi
   by_cases h0 : n = 0
   ·subst h0
    go_wp2
    go_ret
    exact ⟨rfl,BB⟩
   ·have hn0 : ((n : Int) == 0) = false := by simp; omega
    have hn1 : ¬ (n : Int) = 0 := by omega
    obtain ⟨N1,hN1⟩ : ∃ N1,N1 = n - 1 := ⟨_,rfl⟩
    have hN2 : (n : Int) - 1 = (N1 : Int) := by omega
    have hN3 : (N1 : Int) < (n : Int) := by omega
    have hN4 : (0 : Int) ≤ (N1 : Int) := by omega
    have hnz := HT.out (by omega)
    rw [← hN1] at hnz
    obtain ⟨b,off,cc,p1,ao1,m1,d1,bo1,k1,e1,hvv,hcc,XC,Hi⟩ := hv.at N1 (by omega)
    cases hvv
    have hsz := HS.out N1 (by omega)
    have hne0 : (cmpQ (q N1) 0 == 0) = false := by rw [cmpQ_nil]; exact decide_eq_false hnz
    have hne : (cmpQ (q N1) 0 != 0) = true := by rw [bne,hne0]; rfl
    have hne2 : ¬ cmpQ (q N1) 0 = 0 := by simpa using hne
    obtain ⟨x0,x1,x2⟩ := XC
    clear hN1 hnz
    go_wp2_with fail
    clear x0 x1 x2
    refine (qsign_at _ (q N1) 100000 _ (Hi.at _ hsz) (by omega) (by omega)).mono ?_
    rintro e w1 ⟨rfl,b1⟩
    have B1 : Below w.heap.size w w1 := BB.trans (b1.mono BB.size)
    clear hv ht BB b1 Hi
    go_wp2
    go_ret
    exact ⟨rfl,B1⟩
set_option maxRecDepth 20000 in
set_option maxHeartbeats 2000000 in
theorem is4_at (u v : Value) (n m : Nat) (q r : Nat → Rat) (L : Nat) (w : World) (hu : FRow w u n q) (hv : QRow w v m r L) (hs : ∀ i,i < n → qsz (q i) ≤ L) (ht : Tab w) (hn : n ≤ 1000000) (hm : m ≤ 1000000) (hL : 1 ≤ L) (hLM : L ≤ 100000) (htop : 0 < n → q (n - 1) ≠ 0) (heq : ∀ i,co n q i = co m r i) :
  Calls Tryz.prog 10 #[u,v] w fun e w' => e = .returned (.bool true) ∧ Below w.heap.size w w' := by
 obtain ⟨ao,c,rfl⟩ := hu.open
 obtain ⟨bo,d,rfl,hmd,hd63,hsome⟩ := hv.open
 have HS : Hid (∀ i,i < n → qsz (q i) ≤ L) := hs
 have HT : Hid (0 < n → q (n - 1) ≠ 0) := htop
 have HE : Hid (∀ i,co n q i = co m r i) := heq
 clear hs htop heq hsome
 go_enter Tryz.func10,Tryz.ntmps10
 go_wp2
 go_loopw [5] (fun vi wr => ∃ k : Nat,k ≤ max n m ∧ vi = .int .i64 (k : Int) ∧ FRow wr (.slice ao n c) n q ∧ QRow wr (.slice bo m d) m r L ∧ Tab wr ∧ Below w.heap.size w wr) (fun vi _ => max n m - (intOf vi).toNat)
 case atStart => exact ⟨0,by omega,rfl,hu,hv,ht,Below.refl _ _⟩
 case round =>
  clear hu hv ht
  obtain ⟨k,hk,rfl,hu,hv,ht,BB⟩ := hrel
  by_cases hlt : k < n ∨ k < m
  ·have key : ∀ (W : World),FRow W (.slice ao n c) n q → QRow W (.slice bo m d) m r L → True := fun _ _ _ => trivial
   clear key
   by_cases h1 : k < n
   ·have hi : (k : Int) < (n : Int) := by omega
    go_wp2_with fail
    refine (at4_at _ n k q L _ (hu.q L HS.out) hn (by omega) hL).mono ?_
    rintro e w1 ⟨x1,rfl,H1,b1⟩
    replace hu := hu.below b1
    replace hv := hv.below b1
    replace ht := ht.below b1
    replace BB := BB.trans (b1.mono BB.size)
    clear b1
    go_wp2_with fail
    refine (at4_at _ m k r L _ hv hm (by omega) hL).mono ?_
    rintro e w2 ⟨x2,rfl,H2,b2⟩
    replace hu := hu.below b2
    replace hv := hv.below b2
    replace ht := ht.below b2
    replace H1 := H1.below b2
    replace BB := BB.trans (b2.mono BB.size)
    clear b2
    go_wp2_with fail
    refine (qsame_at _ _ (co n q k) (co m r k) L _ H1 H2 hL hLM).mono ?_
    rintro e w3 ⟨rfl,b3⟩
    rw [decide_eq_true (HE.out k)]
    replace hu := hu.below b3
    replace hv := hv.below b3
    replace ht := ht.below b3
    replace BB := BB.trans (b3.mono BB.size)
    clear b3 H1 H2
    go_wp2
    go_roundw
    case rel => exact ⟨k + 1,by omega,by go_num,hu,hv,ht,BB⟩
    case measure => simp [intOf]; omega
   ·have hi : ¬ (k : Int) < (n : Int) := by omega
    have hib : decide ((k : Int) < (n : Int)) = false := decide_eq_false hi
    have hic : decide (k < n) = false := decide_eq_false h1
    have hj : (k : Int) < (m : Int) := by omega
    go_wp2_with fail
    refine (at4_at _ n k q L _ (hu.q L HS.out) hn (by omega) hL).mono ?_
    rintro e w1 ⟨x1,rfl,H1,b1⟩
    replace hu := hu.below b1
    replace hv := hv.below b1
    replace ht := ht.below b1
    replace BB := BB.trans (b1.mono BB.size)
    clear b1
    go_wp2_with fail
    refine (at4_at _ m k r L _ hv hm (by omega) hL).mono ?_
    rintro e w2 ⟨x2,rfl,H2,b2⟩
    replace hu := hu.below b2
    replace hv := hv.below b2
    replace ht := ht.below b2
    replace H1 := H1.below b2
    replace BB := BB.trans (b2.mono BB.size)
    clear b2
    go_wp2_with fail
    refine (qsame_at _ _ (co n q k) (co m r k) L _ H1 H2 hL hLM).mono ?_
    rintro e w3 ⟨rfl,b3⟩
    rw [decide_eq_true (HE.out k)]
    replace hu := hu.below b3
    replace hv := hv.below b3
    replace ht := ht.below b3
    replace BB := BB.trans (b3.mono BB.size)
    clear b3 H1 H2
    go_wp2
    go_roundw
    case rel => exact ⟨k + 1,by omega,by go_num,hu,hv,ht,BB⟩
    case measure => simp [intOf]; omega
  ·have hi : ¬ (k : Int) < (n : Int) := by omega
   have hib : decide ((k : Int) < (n : Int)) = false := decide_eq_false hi
   have hic : decide (k < n) = false := decide_eq_false (by omega)
   have hj : ¬ (k : Int) < (m : Int) := by omega
   have hjb : decide ((k : Int) < (m : Int)) = false := decide_eq_false hj
   have hjc : decide (k < m) = false := decide_eq_false (by omega)
   go_wp2_with fail
   refine (right4_at _ n q _ hu (fun i hi => Nat.le_trans (HS.out i hi) hLM) ht hn HT.out).mono ?_
   rintro e w1 ⟨rfl,b1⟩
   have B1 : Below w.heap.size w w1 := BB.trans (b1.mono BB.size)
   clear hu hv ht BB b1
   go_wp2
   go_ret
   exact ⟨rfl,B1⟩

def eqN (n : Nat) (q : Nat → Rat) (m : Nat) (r : Nat → Rat) : Bool := decide (n = m ∧ ∀ i,i < n → q i = r i)
theorem eqN_len {n m : Nat} {q r : Nat → Rat} (h : ¬ n = m) : eqN n q m r = false := decide_eq_false (fun g => h g.1)
theorem eqN_no {n m : Nat} {q r : Nat → Rat} {k : Nat} (hk : k < n) (h : ¬ q k = r k) : eqN n q m r = false := decide_eq_false (fun g => h (g.2 k hk))
theorem eqN_yes {n : Nat} {q r : Nat → Rat} (h : ∀ i,i < n → q i = r i) : eqN n q n r = true := decide_eq_true ⟨rfl,h⟩
set_option maxRecDepth 20000 in
set_option maxHeartbeats 4000000 in
theorem peq_at (u v : Value) (n m : Nat) (q r : Nat → Rat) (L : Nat) (w : World) (hu : QRow w u n q L) (hv : QRow w v m r L) (hn : n ≤ 1000000) (hm : m ≤ 1000000) (hL : 1 ≤ L) (hLM : L ≤ 100000) :
  Calls Tryz.prog 58 #[u,v,.func (.func 18) #[] #[]] w fun e w' => e = .returned (.bool (eqN n q m r)) ∧ Below w.heap.size w w' := by
 obtain ⟨ao,c,rfl,hnc,hc63,hs1⟩ := hu.open
 obtain ⟨bo,d,rfl,hmd,hd63,hs2⟩ := hv.open
 clear hs1 hs2
 by_cases hnm : n = m
 ·subst hnm
  go_enter Tryz.func58,Tryz.ntmps58
  go_wp2
  go_loopw [17] (fun vi wr => ∃ k : Nat,k ≤ n ∧ vi = .int .i64 (k : Int) ∧ Hid (∀ i,i < k → q i = r i) ∧ QRow wr (.slice ao n c) n q L ∧ QRow wr (.slice bo n d) n r L ∧ Below w.heap.size w wr) (fun vi _ => n - (intOf vi).toNat)
  case atStart => exact ⟨0,by omega,rfl,(fun i hi => by omega),hu,hv,Below.refl _ _⟩
  case round =>
   clear hu hv
   obtain ⟨k,hk,rfl,HQ,hu,hv,BB⟩ := hrel
   by_cases hlt : k < n
   ·have hi : (k : Int) < (n : Int) := by omega
    have h0 : (0 : Int) ≤ (k : Int) := by omega
    obtain ⟨b,off,cc,p1,ao1,m1,d1,bo1,k1,e1,hvv,hcc,XA,HA⟩ := hu.at k hlt
    cases hvv
    obtain ⟨b2,off2,cc2,p2,ao2,m2,d2,bo2,k2,e2,hvv2,hcc2,XB,HB⟩ := hv.at k hlt
    cases hvv2
    have A1 : Below wr.heap.size wr (wr.alloc (.cells #[.bool p1,.slice ao1 m1 d1,.slice bo1 k1 e1] 35)) := (Below.refl _ _).alloc (Nat.le_refl _) _
    have A2 : Below wr.heap.size wr ((wr.alloc (.cells #[.bool p1,.slice ao1 m1 d1,.slice bo1 k1 e1] 35)).alloc (.cells #[.bool p2,.slice ao2 m2 d2,.slice bo2 k2 e2] 35)) := A1.alloc A1.size _
    obtain ⟨x0,x1,x2⟩ := XA
    obtain ⟨y0,y1,y2⟩ := XB.below A1
    have HA2 := HA.below A2
    have HB2 := HB.below A2
    clear HA HB XB
    go_wp2_with fail
    clear x0 x1 x2 y0 y1 y2
    refine (qsame_at _ _ (q k) (r k) L _ HA2 HB2 hL hLM).mono ?_
    rintro e w1 ⟨rfl,b1⟩
    have A3 : Below wr.heap.size wr w1 := A2.trans (b1.mono A2.size)
    have hu1 := hu.below A3
    have hv1 := hv.below A3
    have B1 : Below w.heap.size w w1 := BB.trans (A3.mono BB.size)
    clear hu hv BB b1 A1 A2 A3 HA2 HB2
    by_cases hq : q k = r k
    ·have HQ2 : Hid (∀ i,i < k + 1 → q i = r i) := fun i hi => by
      by_cases e : i = k
      ·subst e; exact hq
      ·exact HQ.out i (by omega)
     rw [decide_eq_true hq]
     clear hq HQ
     go_wp2
     go_roundw
     case rel => exact ⟨k + 1,by omega,by go_num,HQ2,hu1,hv1,B1⟩
     case measure => simp [intOf]; omega
    ·have HN : Hid (eqN n q n r = false) := eqN_no hlt hq
     rw [decide_eq_false hq]
     clear hq HQ
     go_wp2
     go_ret
     exact ⟨by rw [HN.out]; rfl,B1⟩
   ·have hi : ¬ (k : Int) < (n : Int) := by omega
    have hib : decide ((k : Int) < (n : Int)) = false := decide_eq_false hi
    have HN : Hid (eqN n q n r = true) := eqN_yes (fun i hi => HQ.out i (by omega))
    clear HQ
    go_wp2
    go_ret
    exact ⟨by rw [HN.out]; rfl,BB⟩
 ·have hi : ((n : Int) != (m : Int)) = true := by simp; omega
  have hj : ¬ (n : Int) = (m : Int) := by omega
  rw [eqN_len hnm]
  go_enter Tryz.func58,Tryz.ntmps58
  go_wp2
  go_ret
  exact ⟨rfl,Below.refl _ _⟩
set_option maxRecDepth 20000 in
set_option maxHeartbeats 2000000 in
theorem psame_at (u v : Value) (n m : Nat) (q r : Nat → Rat) (L : Nat) (w : World) (hu : QRow w u n q L) (hv : QRow w v m r L) (hn : n ≤ 1000000) (hm : m ≤ 1000000) (hL : 1 ≤ L) (hLM : L ≤ 100000) :
  Calls Tryz.prog 24 #[u,v] w fun e w' => e = .returned (.bool (eqN (trimN q n) q (trimN r m) r)) ∧ Below w.heap.size w w' := by
 have t1 := trimN_le q n
 have t2 := trimN_le r m
 obtain ⟨ao,c,e1,hu2⟩ := hu.pre (trimN q n) t1
 obtain ⟨bo,d,e2,hv2⟩ := hv.pre (trimN r m) t2
 subst e1
 subst e2
 go_enter Tryz.func24,Tryz.ntmps24
 go_wp2_with fail
 refine (ptrim_at _ n q L _ hu hL hLM).mono ?_
 rintro e w1 ⟨ao1,c1,hvv,rfl,b1⟩
 cases hvv
 replace hu2 := hu2.below b1
 replace hv := hv.below b1
 replace hv2 := hv2.below b1
 go_wp2_with fail
 refine (ptrim_at _ m r L _ hv hL hLM).mono ?_
 rintro e w2 ⟨ao2,c2,hvv,rfl,b2⟩
 cases hvv
 replace hu2 := hu2.below b2
 replace hv2 := hv2.below b2
 have B2 : Below w.heap.size w w2 := b1.trans (b2.mono b1.size)
 clear hv hu b1 b2
 go_wp2_with fail
 refine (peq_at _ _ _ _ q r L _ hu2 hv2 (by omega) (by omega) hL hLM).mono ?_
 rintro e w3 ⟨rfl,b3⟩
 go_wp2
 go_ret
 exact ⟨rfl,B2.trans (b3.mono B2.size)⟩
theorem same_co {n m K : Nat} {q r : Nat → Rat} (hn : n ≤ K) (hm : m ≤ K) : eqN (trimN q n) q (trimN r m) r = decide (∀ i,i < K → co n q i = co m r i) := by
 rw [eqN,Bool.eq_iff_iff,decide_eq_true_eq,decide_eq_true_eq]
 have hq := fun i => trimN_zero q n i
 have hr := fun i => trimN_zero r m i
 have l1 := trimN_le q n
 have l2 := trimN_le r m
 constructor
 ·rintro ⟨h1,h2⟩ i hi
  unfold co
  by_cases h : i < trimN q n
  ·rw [if_pos (by omega),if_pos (by omega)]; exact h2 i h
  ·have a : (if i < n then q i else 0) = 0 := by
    split
    ·exact hq i (by omega) (by assumption)
    ·rfl
   have b : (if i < m then r i else 0) = 0 := by
    split
    ·exact hr i (by omega) (by assumption)
    ·rfl
   rw [a,b]
 ·intro h
  have key : ∀ (n m : Nat) (q r : Nat → Rat),n ≤ K → m ≤ K → (∀ i,i < K → co n q i = co m r i) → trimN q n ≤ trimN r m := by
   intro n m q r hn hm h
   by_cases g : trimN q n ≤ trimN r m
   ·exact g
   ·have l1 := trimN_le q n
    have t := trimN_top q n (by omega)
    have e := h (trimN q n - 1) (by omega)
    unfold co at e
    rw [if_pos (by omega)] at e
    exfalso
    by_cases g2 : trimN q n - 1 < m
    ·rw [if_pos g2,trimN_zero r m _ (by omega) g2] at e
     exact t e
    ·rw [if_neg g2] at e
     exact t e
  have h1 := key n m q r hn hm h
  have h2 := key m n r q hm hn (fun i hi => (h i hi).symm)
  refine ⟨by omega,fun i hi => ?_⟩
  have e := h i (by omega)
  unfold co at e
  rw [if_pos (by omega),if_pos (by omega)] at e
  exact e

def Aside (v1 v2 : Value) : Prop := ∀ g,v1.ownBlock = some g → v2.ownBlock ≠ some g
theorem Aside.symm {v1 v2 : Value} (h : Aside v1 v2) : Aside v2 v1 := fun g h1 h2 => h g h2 h1
theorem aside_nil (v : Value) : Aside (.slice none 0 0) v := fun g h => by cases h
theorem FOwn.stay {B : Nat} {w w' : World} {v x : Value} {n : Nat} {q : Nat → Rat} (h : FOwn B w v n q) (hg : w.grownBy w' x.ownBlock) (hk : KeepQ IsNum w w') (ha : Aside v x) : FOwn B w' v n q := by
 obtain ⟨us,el,h1,h2,h3,h4⟩ := h
 have hv : ∀ g,v.ownBlock = some g → some g ≠ x.ownBlock := fun g hg e => ha g hg e.symm
 refine ⟨us,el,h1.kept hg ?_,fun g hgg o u hu => h2 g hgg o u ?_,h3,fun i hi => (h4 i hi).keep hk⟩
 ·cases hb : v.ownBlock with
  | none => exact .inl rfl
  | some g => exact .inr (hv g hb)
 ·rw [← World.cell?_of_block (w := w) (hg.block g (h1.lt g hgg).2 (hv g hgg))]; exact hu
theorem aside_new {B : Nat} {w : World} {v x : Value} {n : Nat} {q : Nat → Rat} {g5 m c : Nat} (h : FOwn B w v n q) (ha : Aside v x) (hat : x.ownBlock = some g5 ∨ g5 = w.heap.size) : Aside v (.slice (some ⟨g5,0,none⟩) m c) := by
 intro g hg e
 have e' : g5 = g := by injection e
 subst e'
 rcases hat with h1 | h1
 ·exact ha g5 hg h1
 ·have := (h.both g5 hg).2; omega
theorem co_beyond (n : Nat) (q : Nat → Rat) (i : Nat) (h : n ≤ i) : co n q i = 0 := by unfold co; rw [if_neg (by omega)]

theorem QRow.le {w : World} {v : Value} {n : Nat} {q : Nat → Rat} {L M : Nat} (h : QRow w v n q L) (hM : L ≤ M) : QRow w v n q M := let ⟨el,h1,h2⟩ := h; ⟨el,h1,fun i hi => (h2 i hi).le hM⟩
end Go.Proofs.YtnbocjbfieklhaaGreatDoor
