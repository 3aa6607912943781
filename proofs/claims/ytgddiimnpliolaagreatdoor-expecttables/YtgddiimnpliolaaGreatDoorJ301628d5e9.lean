/-
  Texts of mine, joined: what lies beneath the statement.
-/
import Derived.Test.YtgddiimnpliolaaGreatDoorJ28fca6d81b
import Derived.Test.YtgddiimnpliolaaGreatDoorJ1388513226
import Derived.Test.YtgddiimnpliolaaGreatDoorJc8d6d40efe
import Derived.Test.YtgddiimnpliolaaGreatDoorJb82b0d9242
namespace Go.Proofs.YtgddiimnpliolaaGreatDoor
open Go.RowKit
set_option linter.unusedVariables false
set_option linter.unusedSimpArgs false
theorem cmpQ_lt10 (q r : Rat) : decide (cmpQ q r < 0) = decide (q < r) := by
 unfold cmpQ
 by_cases h : q < r
 ·simp [h]
 ·by_cases h2 : r < q
  ·simp [h,h2]
  ·simp [h,h2]
set_option maxRecDepth 100000 in
set_option maxHeartbeats 4000000 in
theorem rleft_at (d : Nd) (c : Cl) (p1 p2 p3 p4 : Bool) (a1 b1 a2 b2 a3 b3 a4 b4 : Option Addr) (n1 c1 m1 d1 n2 c2 m2 d2 n3 c3 m3 d3 n4 c4 m4 d4 : Nat) (L : Nat) (w : World) (hu : RatAt w (.agg #[.bool p1,.slice a1 n1 c1,.slice b1 m1 d1]) d.cut L) (hv : RatAt w (.agg #[.bool p4,.slice a4 n4 c4,.slice b4 m4 d4]) c.val L) (hL : 1 ≤ L) (hM : L ≤ 100000) :
  Calls Tryz.prog 66 #[.agg #[.bool d.leaf,.int .i64 d.feat,.bool p1,.slice a1 n1 c1,.slice b1 m1 d1,.int .i64 d.left,.int .i64 d.right,.bool d.miss,.bool p2,.slice a2 n2 c2,.slice b2 m2 d2,.bool p3,.slice a3 n3 c3,.slice b3 m3 d3],.agg #[.bool c.miss,.bool p4,.slice a4 n4 c4,.slice b4 m4 d4]] w fun e w' => e = .returned (.bool (goL d c)) ∧ Below w.heap.size w w' := by
 have hAB : ∀ o o',Below w.heap.size w ((w.alloc o).alloc o') := fun o o' => ((Below.refl _ _).alloc (Nat.le_refl _) _).alloc (by simp) _
 rcases d with ⟨lf,ft,q,ll,rr,ms,vl,cv⟩
 rcases c with ⟨cm,r⟩
 dsimp only at hu hv ⊢
 cases lf
 ·cases cm
  ·have HO : Hid (goL ⟨false,ft,q,ll,rr,ms,vl,cv⟩ ⟨false,r⟩ = decide (r < q)) := rfl
   have h1 := hu.below (hAB (.cells #[.bool false,.int .i64 ft,.bool p1,.slice a1 n1 c1,.slice b1 m1 d1,.int .i64 ll,.int .i64 rr,.bool ms,.bool p2,.slice a2 n2 c2,.slice b2 m2 d2,.bool p3,.slice a3 n3 c3,.slice b3 m3 d3] 57) (.cells #[.bool false,.bool p4,.slice a4 n4 c4,.slice b4 m4 d4] 70))
   have h2 := hv.below (hAB (.cells #[.bool false,.int .i64 ft,.bool p1,.slice a1 n1 c1,.slice b1 m1 d1,.int .i64 ll,.int .i64 rr,.bool ms,.bool p2,.slice a2 n2 c2,.slice b2 m2 d2,.bool p3,.slice a3 n3 c3,.slice b3 m3 d3] 57) (.cells #[.bool false,.bool p4,.slice a4 n4 c4,.slice b4 m4 d4] 70))
   have BB := hAB (.cells #[.bool false,.int .i64 ft,.bool p1,.slice a1 n1 c1,.slice b1 m1 d1,.int .i64 ll,.int .i64 rr,.bool ms,.bool p2,.slice a2 n2 c2,.slice b2 m2 d2,.bool p3,.slice a3 n3 c3,.slice b3 m3 d3] 57) (.cells #[.bool false,.bool p4,.slice a4 n4 c4,.slice b4 m4 d4] 70)
   go_enter Tryz.func66,Tryz.ntmps66
   go_wp2_with fail
   refine (qcmp_at _ _ r q L _ h2 h1 hL hM).mono ?_
   rintro e w1 ⟨rfl,b1⟩
   replace BB := BB.trans (b1.mono BB.size)
   clear b1 h1 h2
   have HC : Hid (decide (cmpQ r q < 0) = decide (r < q)) := cmpQ_lt10 r q
   generalize cmpQ r q = cq at *
   go_wp2
   go_ret
   exact ⟨by rw [HO.out,← HC.out]; rfl,BB⟩
  ·cases ms <;> (go_enter Tryz.func66,Tryz.ntmps66; go_wp2; go_ret; exact ⟨rfl,hAB _ _⟩)
 ·go_enter Tryz.func66,Tryz.ntmps66
  go_wp2
  go_ret
  exact ⟨rfl,hAB _ _⟩
def Quad10 (w : World) (b o : Nat) (x y z u : Value) : Prop := w.cell? ⟨b,o,none⟩ = some x ∧ w.cell? ⟨b,o + 1,none⟩ = some y ∧ w.cell? ⟨b,o + 2,none⟩ = some z ∧ w.cell? ⟨b,o + 3,none⟩ = some u
theorem Quad10.out {w : World} {b o : Nat} {x y z u : Value} (h : Quad10 w b o x y z u) : w.cell? ⟨b,o,none⟩ = some x ∧ w.cell? ⟨b,o + 1,none⟩ = some y ∧ w.cell? ⟨b,o + 2,none⟩ = some z ∧ w.cell? ⟨b,o + 3,none⟩ = some u := h
theorem Quad10.below {w w' : World} {b o : Nat} {x y z u : Value} (h : Quad10 w b o x y z u) (hb : Below w.heap.size w w') : Quad10 w' b o x y z u := by
 have hl := World.block_lt_of_cell? w _ h.1
 exact ⟨(hb.cell (p := ⟨b,o,none⟩) hl).trans h.1,(hb.cell (p := ⟨b,o + 1,none⟩) hl).trans h.2.1,(hb.cell (p := ⟨b,o + 2,none⟩) hl).trans h.2.2.1,(hb.cell (p := ⟨b,o + 3,none⟩) hl).trans h.2.2.2⟩

theorem ChkOut.open {F : Int} {k : Nat} {N : Nat → Nat} {T : Nat → Nat → Nd} {u : Value} (h : ChkOut F k N T u) : ∃ a s d : Int,u = .agg #[.int .i64 a,.int .i64 0,.int .i64 s,.int .i64 d] ∧ (a = 0 → s = 0 ∧ d = 0) := by
 rcases h with ⟨_,rfl⟩ | ⟨_,x,h,rfl⟩
 ·exact ⟨1,0,0,rfl,fun h => by omega⟩
 ·rcases h with ⟨rfl,_⟩ | ⟨r,i,e,nd,hr,hi,rfl,h1,_,_⟩
  ·exact ⟨0,0,0,rfl,fun _ => ⟨rfl,rfl⟩⟩
  ·have := rl_err h1
   exact ⟨e,(i : Int),(nd : Int),rfl,fun h => by omega⟩
set_option maxRecDepth 100000 in
set_option maxHeartbeats 4000000 in
theorem ok_at (F : Int) (v : Value) (k : Nat) (N : Nat → Nat) (T : Nat → Nat → Nd) (L : Nat) (w : World) (hv : MRow w v k N T L) (ht : Tab w) (hL : 1 ≤ L) (hLM : L ≤ 30000) :
  Calls Tryz.prog 49 #[.agg #[.int .i64 F,v]] w fun e w' => ∃ a s d : Int,e = .returned (.bool (decide (a = 0))) ∧ ChkOut F k N T (.agg #[.int .i64 a,.int .i64 0,.int .i64 s,.int .i64 d]) ∧ Below w.heap.size w w' := by
 obtain ⟨ao,c,rfl,hnc,hc63⟩ := hv.open
 have BB : Below w.heap.size w w := Below.refl _ _
 obtain ⟨Wb0,hW0,hS0,hL0,VM⟩ := V2.lay w 24 (.int .i64 F) (.slice ao k c)
 replace hv := hv.below hL0
 replace ht := ht.below hL0
 replace BB := BB.trans (hL0.mono BB.size)
 clear hL0
 go_enter Tryz.func49,Tryz.ntmps49
 obtain ⟨VM_0,VM_1,VM_2,VM_3⟩ := id VM
 rw [hW0] at VM_0 VM_1 VM_2 VM_3
 go_wp2_with fail
 clear VM_0 VM_1 VM_2 VM_3
 rw [← hW0]
 clear hW0 hS0
 refine (check_at F _ k N T L _ hv ht hL hLM).mono ?_
 rintro e w1 ⟨u,rfl,HC,b1⟩
 replace hv := hv.below b1
 replace ht := ht.below b1
 replace VM := VM.below b1
 replace BB := BB.trans (b1.mono BB.size)
 clear b1
 have HCC : Hid (ChkOut F k N T u) := HC
 obtain ⟨a,s,d,rfl,hz⟩ := HC.open
 clear HC
 by_cases ha : a = 0
 ·obtain ⟨rfl,rfl⟩ := hz ha
  subst ha
  go_wp2
  go_ret
  exact ⟨0,0,0,rfl,HCC.out,BB⟩
 ·have hab : (a == 0) = false := by simp [ha]
  have HR : Hid (decide (a = 0) = false) := decide_eq_false ha
  clear hz
  go_wp2
  go_ret
  exact ⟨a,s,d,ret_bool (a := false) HR.out.symm,HCC.out,BB⟩

theorem one_cell (w : World) (u : Value) (t : TypeId) : RowAt 1 (w.alloc (.cells #[u] t)) (.slice (some ⟨w.heap.size,0,none⟩) 1 1) 1 (fun _ _ => u) := by
 refine ⟨_,_,rfl,Nat.le_refl _,by omega,fun _ => ⟨_,_,rfl,fun i hi j hj => ?_⟩⟩
 obtain rfl : i = 0 := by omega
 obtain rfl : j = 0 := by omega
 rw [cell_of_row _ _ _ _ _ _ (heap_alloc_new w (.cells #[u] t))]
 rfl
theorem one_tree {w : World} {v : Value} {n : Nat} {t : Nat → Nd} {L : Nat} (hv : TRow w v n t L) (ty : TypeId) : MRow (w.alloc (.cells #[v] ty)) (.slice (some ⟨w.heap.size,0,none⟩) 1 1) 1 (fun _ => n) (fun _ => t) L :=
 ⟨_,one_cell w v ty,fun _ _ => hv.below ((Below.refl _ _).alloc (Nat.le_refl _) _)⟩

noncomputable def mayB (F : Int) (k : Nat) (N : Nat → Nat) (T : Nat → Nat → Nd) : Bool := @decide (ChkOut F k N T (.agg #[.int .i64 0,.int .i64 0,.int .i64 0,.int .i64 0])) (Classical.propDecidable _)
theorem mayB_of {F : Int} {k : Nat} {N : Nat → Nat} {T : Nat → Nat → Nd} {a s d : Int} (h : ChkOut F k N T (.agg #[.int .i64 a,.int .i64 0,.int .i64 s,.int .i64 d])) : decide (a = 0) = mayB F k N T := by
 unfold mayB
 by_cases e : a = 0
 ·subst e
  obtain ⟨a2,s2,d2,e2,hz⟩ := h.open
  injection e2 with e2
  simp only [Array.mk.injEq,List.cons.injEq,Value.int.injEq,true_and,and_true] at e2
  obtain ⟨e0,es,ed⟩ := e2
  obtain ⟨rfl,rfl⟩ := hz e0.symm
  subst es ed
  rw [decide_eq_true rfl]
  exact (@decide_eq_true _ (Classical.propDecidable _) h).symm
 ·rw [decide_eq_false e]
  refine (@decide_eq_false _ (Classical.propDecidable _) (fun h2 => e ?_)).symm
  have := h.one h2
  injection this with this
  simp only [Array.mk.injEq,List.cons.injEq,Value.int.injEq,true_and,and_true] at this
  exact this.1
theorem mayB_may {F : Int} {k : Nat} {N : Nat → Nat} {T : Nat → Nat → Nd} (h : mayB F k N T = true) : 0 ≤ F ∧ F ≤ 64 ∧ k ≤ 64 ∧ ∀ i,i < k → MayT F (T i) (N i) := by
 unfold mayB at h
 exact (@of_decide_eq_true _ (Classical.propDecidable _) h).may
theorem ok_may (F : Int) (v : Value) (k : Nat) (N : Nat → Nat) (T : Nat → Nat → Nd) (L : Nat) (w : World) (hv : MRow w v k N T L) (ht : Tab w) (hL : 1 ≤ L) (hLM : L ≤ 30000) :
  Calls Tryz.prog 49 #[.agg #[.int .i64 F,v]] w fun e w' => e = .returned (.bool (mayB F k N T)) ∧ Below w.heap.size w w' := by
 refine (ok_at F v k N T L w hv ht hL hLM).mono ?_
 rintro e w' ⟨a,s,d,rfl,h,hb⟩
 exact ⟨by rw [mayB_of h],hb⟩
def WInv (t : Nat → Nd) (n : Nat) (r : Nat → Cl) (zs : List Nat) (x : Nat) : Prop := x < n ∧ ∃ pre,zs = pre ++ [x] ∧ pre ++ way t n r x = way t n r 0
theorem WInv.start {t : Nat → Nd} {n : Nat} (r : Nat → Cl) (h : 0 < n) : WInv t n r [0] 0 := ⟨h,[],rfl,rfl⟩
theorem WInv.leaf {t : Nat → Nd} {n : Nat} {r : Nat → Cl} {zs : List Nat} {x : Nat} (h : WInv t n r zs x) (hl : (t x).leaf = true) : zs = way t n r 0 := by
 obtain ⟨_,pre,e,h⟩ := h
 rw [way_leaf hl] at h
 rw [e,h]
theorem WInv.split {F : Int} {t : Nat → Nd} {n : Nat} {r : Nat → Cl} {zs : List Nat} {x : Nat} (h : WInv t n r zs x) (hm : MayT F t n) (hl : (t x).leaf = false) : WInv t n r (zs ++ [nxt (t x) r]) (nxt (t x) r) := by
 obtain ⟨hx,pre,e,h⟩ := h
 rw [hm.way_split r hx hl] at h
 refine ⟨(hm.nxt hx hl r).1,pre ++ [x],by rw [e],?_⟩
 rw [← h,List.append_assoc]
 rfl
theorem WInv.len {F : Int} {t : Nat → Nd} {n : Nat} {r : Nat → Cl} {zs : List Nat} {x : Nat} (h : WInv t n r zs x) (hm : MayT F t n) : 1 ≤ zs.length ∧ zs.length ≤ n + 1 := by
 obtain ⟨hx,pre,e,h⟩ := h
 have h1 := hm.way_len r (x := 0) (by omega)
 rw [← h,List.length_append] at h1
 have := List.length_pos_iff.2 (way_ne t n r x)
 rw [e,List.length_append]
 simp
 omega
theorem IntOwn.le {B B' : Nat} {w : World} {v : Value} {zs : List Nat} (h : IntOwn B w v zs) (hb : B' ≤ B) : IntOwn B' w v zs := by
 refine ⟨h.1,?_⟩
 rcases h.2 with h | ⟨g,c,cur,e,h1,h2⟩
 ·exact .inl h
 ·exact .inr ⟨g,c,cur,e,Nat.le_trans hb h1,h2⟩



def VArr (w : World) (g k i : Nat) (q : Nat → Rat) : Prop := ∃ el,Arr3 w g k el ∧ ∀ j,j < i → RepQ w (elv el j) (q j)
theorem VArr.below {w w' : World} {g k i : Nat} {q : Nat → Rat} (h : VArr w g k i q) (hb : Below w.heap.size w w') : VArr w' g k i q := let ⟨el,a,b⟩ := h; ⟨el,a.below hb,fun j hj => (b j hj).below hb⟩
theorem VArr.put {w : World} {g k i : Nat} {q : Nat → Rat} (h : VArr w g k i q) (hi : i < k) {p : Bool} {a b : Option Addr} {n c m d : Nat} (hr : RepQ w (.agg #[.bool p,.slice a n c,.slice b m d]) (q i)) : ∃ u0 u1 u2,w.cell? ⟨g,i * 3,none⟩ = some u0 ∧ w.cell? ⟨g,i * 3 + 1,none⟩ = some u1 ∧ w.cell? ⟨g,i * 3 + 2,none⟩ = some u2 ∧ w.frozen? ⟨g,i * 3,none⟩ = false ∧ w.frozen? ⟨g,i * 3 + 1,none⟩ = false ∧ w.frozen? ⟨g,i * 3 + 2,none⟩ = false ∧
  VArr (((w.setCell ⟨g,i * 3,none⟩ (.bool p)).setCell ⟨g,i * 3 + 1,none⟩ (.slice a n c)).setCell ⟨g,i * 3 + 2,none⟩ (.slice b m d)) g k (i + 1) q := by
 obtain ⟨el,A,R⟩ := h
 obtain ⟨A2,K2⟩ := A.set i hi (.bool p) (.slice a n c) (.slice b m d) (num_bool _) (num_slice _ _ _) (num_slice _ _ _)
 refine ⟨_,_,_,A.1 i hi 0 (by omega),A.1 i hi 1 (by omega),A.1 i hi 2 (by omega),A.2.1 i hi 0 (by omega),A.2.1 i hi 1 (by omega),A.2.1 i hi 2 (by omega),_,A2,fun j hj => ?_⟩
 by_cases e : j = i
 ·subst e
  have := hr.keep K2
  simpa [elv,upd3] using this
 ·have := (R j (by omega)).keep K2
  simp only [elv,upd3_other el i j _ _ _ e] at *
  exact this
theorem VArr.row {w : World} {g k : Nat} {q : Nat → Rat} (h : VArr w g k k q) (hk : k ≤ 100000) : FRow w (.slice (some ⟨g,0,none⟩) k k) k q :=
 let ⟨el,a,b⟩ := h; ⟨el,a.row k k (Nat.le_refl _) (Nat.le_refl _) (by omega),b⟩
noncomputable def whyI (F : Int) (k : Nat) (N : Nat → Nat) (T : Nat → Nat → Nd) (nr : Nat) : Int := if mayB F k N T = true then (if (nr : Int) = F then 0 else 14) else 1
theorem whyI_no {F : Int} {k : Nat} {N : Nat → Nat} {T : Nat → Nat → Nd} {nr : Nat} (h : mayB F k N T = false) : whyI F k N T nr = 1 := by unfold whyI; rw [h]; rfl
theorem whyI_len {F : Int} {k : Nat} {N : Nat → Nat} {T : Nat → Nat → Nd} {nr : Nat} (h : mayB F k N T = true) (h2 : ¬ (nr : Int) = F) : whyI F k N T nr = 14 := by unfold whyI; rw [if_pos h,if_neg h2]
theorem whyI_yes {F : Int} {k : Nat} {N : Nat → Nat} {T : Nat → Nat → Nd} {nr : Nat} (h : mayB F k N T = true) (h2 : (nr : Int) = F) : whyI F k N T nr = 0 := by unfold whyI; rw [if_pos h,if_pos h2]
set_option maxRecDepth 20000 in
set_option maxHeartbeats 2000000 in
theorem rlength_at (F : Int) (a ar : Option Addr) (k c nr cr : Nat) (w : World) :
  Calls Tryz.prog 94 #[.agg #[.int .i64 F,.slice a k c],.slice ar nr cr] w fun e w' => e = .returned (.int .i64 (if (nr : Int) = F then 0 else 14)) ∧ Below w.heap.size w w' := by
 have hA : Below w.heap.size w (w.alloc (.cells #[.int .i64 F,.slice a k c] 24)) := (Below.refl _ _).alloc (Nat.le_refl _) _
 by_cases h : (nr : Int) = F
 ·rw [if_pos h]
  have g2 : ((nr : Int) != F) = false := by simpa using h
  have g3 : decide ((nr : Int) = F) = true := decide_eq_true h
  go_enter Tryz.func94,Tryz.ntmps94
  go_wp2
  go_ret
  exact ⟨rfl,hA⟩
 ·rw [if_neg h]
  have g2 : ((nr : Int) != F) = true := by simpa using h
  have g3 : decide ((nr : Int) = F) = false := decide_eq_false h
  go_enter Tryz.func94,Tryz.ntmps94
  go_wp2
  go_ret
  exact ⟨rfl,hA⟩
set_option maxRecDepth 100000 in
set_option maxHeartbeats 4000000 in
theorem rfits_at (F : Int) (vm vr : Value) (k nr : Nat) (N : Nat → Nat) (T : Nat → Nat → Nd) (r : Nat → Cl) (L : Nat) (w : World) (hM : MRow w vm k N T L) (hR : CRow w vr nr r L) (hT : Tab w) (hL : 1 ≤ L) (hLM : L ≤ 30000) :
  Calls Tryz.prog 52 #[.agg #[.int .i64 F,vm],vr] w fun e w' => e = .returned (.int .i64 (whyI F k N T nr)) ∧ Below w.heap.size w w' := by
 obtain ⟨ao,c,rfl,hnc,hc63⟩ := hM.open
 obtain ⟨ar,cr,rfl,hrc,hr63⟩ := hR.open
 obtain ⟨W0,hW0,hS0,hL0,VM⟩ := V2.lay w 24 (.int .i64 F) (.slice ao k c)
 have BB : Below w.heap.size w W0 := hL0
 have hM1 := hM.below hL0
 have hT1 := hT.below hL0
 clear hL0
 go_enter Tryz.func52,Tryz.ntmps52
 obtain ⟨VM_0,VM_1,VM_2,VM_3⟩ := id VM
 rw [hW0] at VM_0 VM_1 VM_2 VM_3
 go_wp2_with fail
 clear VM_0 VM_1 VM_2 VM_3
 rw [← hW0]
 clear hW0 hS0
 refine (ok_may F _ k N T L _ hM1 hT1 hL hLM).mono ?_
 rintro e w1 ⟨rfl,b1⟩
 replace VM := VM.below b1
 replace BB := BB.trans (b1.mono BB.size)
 clear b1 hM1 hT1
 obtain ⟨VM_0,VM_1,VM_2,VM_3⟩ := id VM
 obtain ⟨mb,hmb⟩ : ∃ mb,mayB F k N T = mb := ⟨_,rfl⟩
 rw [hmb]
 have HB : Hid (mayB F k N T = mb) := hmb
 clear hmb
 cases mb
 ·go_wp2
  go_ret
  exact ⟨by rw [whyI_no HB.out]; rfl,BB⟩
 ·go_wp2_with fail
  refine (rlength_at F _ _ k c nr cr _).mono ?_
  rintro e w2 ⟨rfl,b2⟩
  replace BB := BB.trans (b2.mono BB.size)
  clear b2
  have HW : Hid (whyI F k N T nr = if (nr : Int) = F then 0 else 14) := by show whyI _ _ _ _ _ = _; unfold whyI; rw [if_pos HB.out]
  generalize (if (nr : Int) = F then (0 : Int) else 14) = x at *
  go_wp2
  go_ret
  exact ⟨by rw [HW.out]; rfl,BB⟩
set_option maxRecDepth 100000 in
set_option maxHeartbeats 4000000 in
theorem lwhy_at (F : Int) (vm vr : Value) (k nr : Nat) (N : Nat → Nat) (T : Nat → Nat → Nd) (r : Nat → Cl) (L : Nat) (w : World) (hM : MRow w vm k N T L) (hR : CRow w vr nr r L) (hT : Tab w) (hL : 1 ≤ L) (hLM : L ≤ 30000) :
  Calls Tryz.prog 14 #[.agg #[.int .i64 F,vm],vr] w fun e w' => e = .returned (.int .i64 (whyI F k N T nr)) ∧ Below w.heap.size w w' := by
 obtain ⟨ao,c,rfl,hnc,hc63⟩ := hM.open
 obtain ⟨ar,cr,rfl,hrc,hr63⟩ := hR.open
 obtain ⟨W0,hW0,hS0,hL0,VM⟩ := V2.lay w 24 (.int .i64 F) (.slice ao k c)
 have BB : Below w.heap.size w W0 := hL0
 have hM1 := hM.below hL0
 have hT1 := hT.below hL0
 clear hL0
 go_enter Tryz.func14,Tryz.ntmps14
 obtain ⟨VM_0,VM_1,VM_2,VM_3⟩ := id VM
 rw [hW0] at VM_0 VM_1 VM_2 VM_3
 go_wp2_with fail
 clear VM_0 VM_1 VM_2 VM_3
 rw [← hW0]
 clear hW0 hS0
 refine (ok_may F _ k N T L _ hM1 hT1 hL hLM).mono ?_
 rintro e w1 ⟨rfl,b1⟩
 replace VM := VM.below b1
 replace BB := BB.trans (b1.mono BB.size)
 clear b1 hM1 hT1
 obtain ⟨VM_0,VM_1,VM_2,VM_3⟩ := id VM
 obtain ⟨mb,hmb⟩ : ∃ mb,mayB F k N T = mb := ⟨_,rfl⟩
 rw [hmb]
 have HB : Hid (mayB F k N T = mb) := hmb
 clear hmb
 cases mb
 ·go_wp2
  go_ret
  exact ⟨by rw [whyI_no HB.out]; rfl,BB⟩
 ·by_cases h : (nr : Int) = F
  ·have g2 : ((nr : Int) != F) = false := by simpa using h
   have g3 : decide ((nr : Int) = F) = true := decide_eq_true h
   have HH : Hid ((nr : Int) = F) := h
   clear h
   go_wp2
   go_ret
   exact ⟨by rw [whyI_yes HB.out HH.out]; rfl,BB⟩
  ·have g2 : ((nr : Int) != F) = true := by simpa using h
   have g3 : decide ((nr : Int) = F) = false := decide_eq_false h
   have HH : Hid (¬ (nr : Int) = F) := h
   go_wp2
   go_ret
   exact ⟨by rw [whyI_len HB.out HH.out]; rfl,BB⟩

structure Cel10 (w : World) (b o : Nat) (x : Value) : Prop where
 cell : w.cell? ⟨b,o,none⟩ = some x
theorem Cel10.lt {w : World} {b o : Nat} {x : Value} (h : Cel10 w b o x) : b < w.heap.size := World.block_lt_of_cell? _ _ h.cell
theorem Cel10.below {w w' : World} {b o : Nat} {x : Value} (h : Cel10 w b o x) (hb : Below w.heap.size w w') : Cel10 w' b o x := ⟨(hb.cell (p := ⟨b,o,none⟩) h.lt).trans h.cell⟩
theorem Cel10.from {B : Nat} {w w' : World} {b o : Nat} {x : Value} (h : w.cell? ⟨b,o,none⟩ = some x) (hb : Below w.heap.size w w') : Cel10 w' b o x := ⟨(hb.cell (p := ⟨b,o,none⟩) (World.block_lt_of_cell? _ _ h)).trans h⟩
theorem Cel10.other3 {w : World} {b o R : Nat} {x : Value} (h : Cel10 w b o x) (hne : b ≠ R) (u0 u1 u2 : Value) : Cel10 (((w.setCell ⟨R,0,none⟩ u0).setCell ⟨R,1,none⟩ u1).setCell ⟨R,2,none⟩ u2) b o x :=
 ⟨by rw [World.cell?_setCell_other _ _ _ _ (fun e => by injection e; omega),World.cell?_setCell_other _ _ _ _ (fun e => by injection e; omega),World.cell?_setCell_other _ _ _ _ (fun e => by injection e; omega)]; exact h.cell⟩
set_option maxRecDepth 100000 in
set_option maxHeartbeats 4000000 in
theorem is10_at (u v : Value) (q : Rat) (L M : Nat) (w : World) (hu : RepQ w u q) (hs : qsz q ≤ L) (hv : RatAt w v q M) (hM2 : 2 ≤ M) (hLM : L + M ≤ 890) :
  Calls Tryz.prog 17 #[u,v] w fun e w' => e = .returned (.bool true) ∧ Below w.heap.size w w' := by
 obtain ⟨pu,au,nu,cu,bu,mu,du,rfl⟩ := hu.open
 obtain ⟨pv,av,nv,cv,bv,mv,dv,rfl⟩ := hv.open
 have BB : Below w.heap.size w w := Below.refl _ _
 obtain ⟨Wb0,hW0,hS0,hL0,VU⟩ := V3.lay w 40 (.bool pu) (.slice au nu cu) (.slice bu mu du)
 replace hu := hu.below hL0
 replace hv := hv.below hL0
 replace BB := BB.trans (hL0.mono BB.size)
 clear hL0
 obtain ⟨Wb1,hW1,hS1,hL1,VV⟩ := V3.lay Wb0 40 (.bool pv) (.slice av nv cv) (.slice bv mv dv)
 rw [hS0] at VV hS1
 replace hu := hu.below hL1
 replace hv := hv.below hL1
 replace VU := VU.below hL1
 replace BB := BB.trans (hL1.mono BB.size)
 clear hL1
 go_enter Tryz.func17,Tryz.ntmps17
 go_wp2
 rw [← hW0]
 rw [← hW1]
 clear hW0 hW1 hS0 hS1
 have hDr : Below Wb1.heap.size Wb1 Wb1.drew := (Below.refl _ _).drew
 replace hu := hu.below hDr
 replace hv := hv.below hDr
 replace VU := VU.below hDr
 replace VV := VV.below hDr
 replace BB := BB.trans (hDr.mono BB.size)
 clear hDr
 refine wp_region_held_drew (S := (fun w' => w'.cell? ⟨w.heap.size,0,none⟩ = some (.bool pu) ∧ w'.cell? ⟨w.heap.size,1,none⟩ = some (.slice au nu cu) ∧ w'.cell? ⟨w.heap.size,2,none⟩ = some (.slice bu mu du) ∧ w'.cell? ⟨w.heap.size + 1,0,none⟩ = some (.bool pv) ∧ w'.cell? ⟨w.heap.size + 1,1,none⟩ = some (.slice av nv cv) ∧ w'.cell? ⟨w.heap.size + 1,2,none⟩ = some (.slice bv mv dv))) (by kernel_rfl) ?_ (fun hHeld => ?_)
 ·exact ⟨VU.1,VU.2.1,VU.2.2.1,VV.1,VV.2.1,VV.2.2.1⟩
 generalize Wb1.drew = W1 at *
 refine xT 0 (v := ?_) (hy := Or.inl ⟨by rfl,?_⟩) (h := ?_)
 rotate_left
 ·(intro w hSw; (try dsimp only at hSw); go_simp; (try with_reducible rfl))
 (try simp only [Act.put,xL4,xL5,xL6])
 refine xT 1 (v := ?_) (hy := Or.inl ⟨by rfl,?_⟩) (h := ?_)
 rotate_left
 ·(intro w hSw; (try dsimp only at hSw); go_simp; (try with_reducible rfl))
 (try simp only [Act.put,xL4,xL5,xL6])
 refine xR [2] (h := ?_)
 refine xN (h := fun K hK => ?_)
 go_simp
 refine (jfrom_at _ q M _ hv hM2 (by omega)).mono ?_
 rintro e w1 ⟨x1,rfl,j1,b1⟩
 go_wp2_with fail
 replace hu := hu.below b1
 replace hv := hv.below b1
 replace VU := VU.below b1
 replace VV := VV.below b1
 replace BB := BB.trans (b1.mono BB.size)
 clear b1
 refine hK.out _ _ ?_ (fun hH1 => ?_)
 ·exact ⟨VU.1,VU.2.1,VU.2.2.1,VV.1,VV.2.1,VV.2.2.1⟩
 clear hK K hHeld
 (try simp only [Act.put,xL4,xL5,xL6])
 refine xR [3] (h := ?_)
 refine xN (h := fun K hK => ?_)
 go_simp
 refine (jis_at _ _ q L M _ hu hs j1 hLM).mono ?_
 rintro e w2 ⟨rfl,b2⟩
 go_wp2_with fail
 replace hu := hu.below b2
 replace hv := hv.below b2
 replace j1 := j1.below b2
 replace VU := VU.below b2
 replace VV := VV.below b2
 replace BB := BB.trans (b2.mono BB.size)
 clear b2
 refine hK.out _ _ ?_ (fun hH2 => ?_)
 ·exact ⟨VU.1,VU.2.1,VU.2.2.1,VV.1,VV.2.1,VV.2.2.1⟩
 clear hK K hH1
 (try simp only [Act.put,xL4,xL5,xL6])
 refine xT 4 (v := ?_) (hy := Or.inl ⟨by rfl,?_⟩) (h := ?_)
 rotate_left
 ·(intro w hSw; (try dsimp only at hSw); go_simp; (try with_reducible rfl))
 (try simp only [Act.put,xL4,xL5,xL6])
 refine wpAnyH_done (by kernel_rfl) ?_ _
 clear hH2
 go_wp2
 go_ret
 exact ⟨rfl,BB⟩

theorem IntOwn.below {B : Nat} {w w' : World} {v : Value} {zs : List Nat} (h : IntOwn B w v zs) (hb : Below w.heap.size w w') : IntOwn B w' v zs := h.later hb
theorem V3.low11 {B R : Nat} {W W' : World} {x y z : Value} (h : V3 W R x y z) (hb : Below B W W') (hlt : R < B) : V3 W' R x y z :=
 ⟨(hb.cell (p := ⟨R,0,none⟩) hlt).trans h.1,(hb.cell (p := ⟨R,1,none⟩) hlt).trans h.2.1,(hb.cell (p := ⟨R,2,none⟩) hlt).trans h.2.2.1,(hb.frozen (p := ⟨R,0,none⟩) hlt).trans h.2.2.2.1,(hb.frozen (p := ⟨R,1,none⟩) hlt).trans h.2.2.2.2.1,(hb.frozen (p := ⟨R,2,none⟩) hlt).trans h.2.2.2.2.2⟩
theorem int_more1 {B : Nat} {w : World} {g c x k : Nat} {zs : List Nat} (hk : zs.length = k) (h : w.ownsRow B 3 1 (.slice (some ⟨g,0,none⟩) (k + 1) c) (k + 1) (zs.map (fun x : Nat => Value.int .i64 (x : Int)) ++ [.int .i64 (x : Int)])) : IntOwn B w (.slice (some ⟨g,0,none⟩) (k + 1) c) (zs ++ [x]) := by
 unfold IntOwn
 rw [List.map_append,List.length_append,hk]
 exact h
theorem news_v1 {w : World} {R : Nat} {x : Value} (h : V1 w R x) : ∀ j u,[x][j]? = some u → w.cell? ((⟨R,0,none⟩ : Addr).add j) = some u := by
 intro j u hu
 match j,hu with
 | 0,hu => simp at hu; subst hu; exact h.1
 | k + 1,hu => simp at hu
def Blt11 (B : Nat) (w : World) (v x : Value) : Prop := ∃ R,v = .slice (some ⟨R,0,none⟩) 1 1 ∧ B ≤ R ∧ V1 w R x
theorem Blt11.below {B : Nat} {w w' : World} {v x : Value} (h : Blt11 B w v x) (hb : Below w.heap.size w w') : Blt11 B w' v x := let ⟨R,e,hB,hv⟩ := h; ⟨R,e,hB,hv.below hb⟩
theorem info_node11 : (Tryz.prog.info? 57).map (·.size) = some 14 := by kernel_rfl
structure OnW (w : World) (v : Value) (n : Nat) (t : Nat → Nd) (r : Nat → Cl) (s : Nat) : Prop where
 form : ∃ a k c,v = .slice a k c
 at' : ∀ x,x < n → (t x).leaf = false → inS s (t x).feat.toNat = true → ∃ b off c,v = .slice (some ⟨b,off,none⟩) n c ∧ n ≤ c ∧ w.cell? ⟨b,off + x,none⟩ = some (.int .i64 (nxt (t x) r : Int))
theorem OnW.below {w w' : World} {v : Value} {n : Nat} {t : Nat → Nd} {r : Nat → Cl} {s : Nat} (h : OnW w v n t r s) (hb : Below w.heap.size w w') : OnW w' v n t r s :=
 ⟨h.form,fun x hx hl hi => by
  obtain ⟨b,off,c,e,hc,hcl⟩ := h.at' x hx hl hi
  exact ⟨b,off,c,e,hc,(hb.cell (p := ⟨b,off + x,none⟩) (World.block_lt_of_cell? _ _ hcl)).trans hcl⟩⟩
theorem OnW.none (w : World) (v : Value) (n : Nat) (t : Nat → Nd) (r : Nat → Cl) (h : ∃ a k c,v = .slice a k c) : OnW w v n t r 0 := ⟨h,fun x _ _ hi => by rw [inS_none] at hi; cases hi⟩
set_option maxRecDepth 100000 in
set_option maxHeartbeats 16000000 in
theorem counted_at (F : Int) (va vb vc : Value) (n : Nat) (t : Nat → Nd) (r : Nat → Cl) (s L : Nat) (w : World) (hT : TRow w va n t L) (hO : OnW w vb n t r s) (hC : ∃ a k c,vc = .slice a k c) (hm : MayT F t n) (hF : F ≤ 64) (hs : s < 18446744073709551616) :
  Calls Tryz.prog 106 #[.agg #[va,vb,vc],.int .u64 (s : Int)] w fun e w' => ∃ u outs,e = .returned u ∧ IntOwn w.heap.size w' u outs ∧ QInv t n r s outs outs.length ∧ Below w.heap.size w w' := by
 obtain ⟨at_,ct,rfl,htc,ht63⟩ := hT.open
 obtain ⟨ao,ko,co_,rfl⟩ := hO.form
 obtain ⟨ac,kc_,cc_,rfl⟩ := hC
 have BB : Below w.heap.size w w := Below.refl _ _
 have hn0 : 0 < n := hm.pos
 have hn255 := hm.few
 obtain ⟨i0,hi0,hsz0⟩ : ∃ i0,Tryz.prog.info? 57 = some i0 ∧ i0.size = 14 := by
  have := info_node11
  cases e : Tryz.prog.info? 57 with
  | none => rw [e] at this; cases this
  | some i0 => rw [e] at this; exact ⟨i0,rfl,by simpa using this⟩
 have HI0 : Hid (Tryz.prog.info? 57 = some i0 ∧ i0.size = 14) := ⟨hi0,hsz0⟩
 clear hi0 hsz0
 obtain ⟨Wb0,hW0,hS0,hL0,VV⟩ := V3.lay w 101 (.slice at_ n ct) (.slice ao ko co_) (.slice ac kc_ cc_)
 have HT0 : Hid (TRow w (.slice at_ n ct) n t L) := hT
 have HOW : Hid (OnW w (.slice ao ko co_) n t r s) := hO
 have HM : Hid (MayT F t n) := hm
 replace BB := BB.trans (hL0.mono BB.size)
 have hF0 := int_first Wb0 0 (w.heap.size + 1) (by omega)
 have hA0 : Below Wb0.heap.size Wb0 (Wb0.alloc (.cells #[.int .i64 0] 3)) := (Below.refl _ _).alloc (Nat.le_refl _) _
 replace VV := VV.below hA0
 replace BB := BB.trans (hA0.mono BB.size)
 have HQ0 : Hid (QInv t n r s [0] 0) := QInv.start hn0
 clear hL0 hA0 hT hO hm
 go_enter Tryz.func106,Tryz.ntmps106
 go_wp2
 rw [← hW0]
 have hF1 : IntOwn (w.heap.size + 1) (Wb0.alloc (.cells #[.int .i64 0] 3)) (.slice (some ⟨w.heap.size + 1,0,none⟩) 1 1) [0] := by rw [hS0] at hF0; exact hF0
 clear hF0 hW0 hS0
 generalize Wb0.alloc (.cells #[.int .i64 0] 3) = W1 at *
 go_loopw [5,6] (fun vo vk wr => ∃ (outs : List Nat) (k : Nat),vk = .int .i64 (k : Int) ∧ IntOwn (w.heap.size + 1) wr vo outs ∧ Hid (QInv t n r s outs k) ∧ V3 wr w.heap.size (.slice at_ n ct) (.slice ao ko co_) (.slice ac kc_ cc_) ∧ Below w.heap.size w wr) (fun _ vk _ => n + 1 - (intOf vk).toNat)
 case atStart => exact ⟨[0],0,rfl,hF1,HQ0,VV,BB⟩
 case round =>
  clear hF1 HQ0 VV BB
  obtain ⟨outs,k,rfl,hO1,HQ,VV,BB⟩ := hrel
  have hle := HQ.out.len
  have hkl := HQ.out.le
  have hne : 0 < outs.length := (List.getElem?_eq_some_iff.1 HQ.out.root).1
  obtain ⟨go,co,rfl,hoc⟩ := hO1.open hne
  have HC : Hid (∀ j x : Nat,outs[j]? = some x → wr.cell? ⟨go,j,none⟩ = some (.int .i64 (x : Int))) := fun j x hj => hO1.cell rfl hj
  obtain ⟨len,hlen⟩ : ∃ len,outs.length = len := ⟨_,rfl⟩
  have HLN : Hid (outs.length = len) := hlen
  have hgo : w.heap.size + 1 ≤ go := (hO1.both go rfl).1
  rw [hlen] at hle hkl hoc hne hO1 ⊢
  clear hlen
  by_cases hlt : k < len
  ·have g1 : (k : Int) < (len : Int) := by omega
   have g0 : (0 : Int) ≤ (k : Int) := by omega
   obtain ⟨x,hx⟩ : ∃ x,outs[k]? = some x := ⟨_,List.getElem?_eq_getElem (by have := HLN.out; omega)⟩
   have hxn : x < n := HQ.out.small x (List.mem_of_getElem? hx)
   have XO : Cel10 wr go k (.int .i64 (x : Int)) := ⟨HC.out k x hx⟩
   have HQ2 : Hid (QInv t n r s (outs ++ kidS t r s x) (k + 1)) := HQ.out.step HM.out hx
   have hq2 := HQ2.out.len
   rw [List.length_append,HLN.out] at hq2
   have f0 : (0 : Int) ≤ (x : Int) := by omega
   have f1 : (x : Int) < (n : Int) := by omega
   obtain ⟨b,off,cc,p1,a1,n1,c1,b1,m1,d1,p2,a2,n2,c2,b2,m2,d2,p3,a3,n3,c3,b3,m3,d3,hvv,hcc,hc6,NN,r1,r2,r3,i1,i2,i3⟩ := (HT0.out.below BB).at hxn
   cases hvv
   have HKS : Hid (kidS t r s x = if (t x).leaf = true then [] else if inS s (t x).feat.toNat = true then [nxt (t x) r] else [kl t x,kr t x]) := rfl
   have HKD : Hid ((t x).leaf = false → (t x).left = (kl t x : Int) ∧ (t x).right = (kr t x : Int)) := fun h => ⟨(HM.out.kids hxn h).1,(HM.out.kids hxn h).2.1⟩
   have HFT : Hid ((t x).leaf = false → 0 ≤ (t x).feat ∧ (t x).feat < F) := HM.out.feat x hxn
   have HON : Hid (∀ w',Below w.heap.size w w' → (t x).leaf = false → inS s (t x).feat.toNat = true → ∃ b off c,Value.slice ao ko co_ = .slice (some ⟨b,off,none⟩) n c ∧ n ≤ c ∧ w'.cell? ⟨b,off + x,none⟩ = some (.int .i64 (nxt (t x) r : Int))) := fun w' hb => (HOW.out.below hb).at' x hxn
   clear hx HC HQ r1 r2 r3 i1 i2 i3
   generalize kidS t r s x = ks at *
   generalize nxt (t x) r = nx at *
   generalize kl t x = kx at *
   generalize kr t x = ky at *
   obtain ⟨lf,hlf⟩ : ∃ z,(t x).leaf = z := ⟨_,rfl⟩
   obtain ⟨ft,hft⟩ : ∃ z,(t x).feat = z := ⟨_,rfl⟩
   obtain ⟨ll,hll⟩ : ∃ z,(t x).left = z := ⟨_,rfl⟩
   obtain ⟨rr,hrr⟩ : ∃ z,(t x).right = z := ⟨_,rfl⟩
   obtain ⟨ms,hms⟩ : ∃ z,(t x).miss = z := ⟨_,rfl⟩
   rw [hlf,hft] at HKS HON
   rw [hlf,hll,hrr] at HKD
   rw [hlf,hft] at HFT
   rw [hlf,hft,hll,hrr,hms] at NN
   clear hlf hft hll hrr hms
   have HO1 := hO1
   go_wp2_with fail
   have hDr : Below wr.heap.size wr wr.drew := (Below.refl _ _).drew
   replace VV := VV.below hDr
   replace XO := XO.below hDr
   replace NN := NN.below hDr
   replace hO1 := hO1.below hDr
   replace BB := BB.trans (hDr.mono BB.size)
   clear hDr
   refine wp_region_held_drew (S := (fun w' => w'.cell? ⟨w.heap.size,0,none⟩ = some (.slice (some ⟨b,off,none⟩) n ct) ∧ w'.cell? ⟨go,k,none⟩ = some (.int .i64 (x : Int)) ∧ w'.cell? ⟨b,off + x * 14,none⟩ = some (.bool lf) ∧ w'.cell? ⟨b,off + x * 14 + 1,none⟩ = some (.int .i64 ft) ∧ w'.cell? ⟨b,off + x * 14 + 2,none⟩ = some (.bool p1) ∧ w'.cell? ⟨b,off + x * 14 + 3,none⟩ = some (.slice a1 n1 c1) ∧ w'.cell? ⟨b,off + x * 14 + 4,none⟩ = some (.slice b1 m1 d1) ∧ w'.cell? ⟨b,off + x * 14 + 5,none⟩ = some (.int .i64 ll) ∧ w'.cell? ⟨b,off + x * 14 + 6,none⟩ = some (.int .i64 rr) ∧ w'.cell? ⟨b,off + x * 14 + 7,none⟩ = some (.bool ms) ∧ w'.cell? ⟨b,off + x * 14 + 8,none⟩ = some (.bool p2) ∧ w'.cell? ⟨b,off + x * 14 + 9,none⟩ = some (.slice a2 n2 c2) ∧ w'.cell? ⟨b,off + x * 14 + 10,none⟩ = some (.slice b2 m2 d2) ∧ w'.cell? ⟨b,off + x * 14 + 11,none⟩ = some (.bool p3) ∧ w'.cell? ⟨b,off + x * 14 + 12,none⟩ = some (.slice a3 n3 c3) ∧ w'.cell? ⟨b,off + x * 14 + 13,none⟩ = some (.slice b3 m3 d3))) (by kernel_rfl) ?_ (fun hHeld => ?_)
   ·exact ⟨VV.1,XO.cell,NN.c0,NN.c1,NN.c2,NN.c3,NN.c4,NN.c5,NN.c6,NN.c7,NN.c8,NN.c9,NN.c10,NN.c11,NN.c12,NN.c13⟩
   generalize wr.drew = W1 at *
   refine xT 0 (v := ?_) (hy := Or.inl ⟨by rfl,?_⟩) (h := ?_)
   rotate_left
   ·(intro w hSw; (try dsimp only at hSw); go_simp; (try with_reducible rfl))
   (try simp only [Act.put,xL4,xL5,xL6])
   refine xT 1 (v := ?_) (hy := Or.inl ⟨by rfl,?_⟩) (h := ?_)
   rotate_left
   ·(intro w hSw; (try dsimp only at hSw); go_simp; (try with_reducible rfl))
   (try simp only [Act.put,xL4,xL5,xL6])
   refine xT 2 (v := ?_) (hy := Or.inl ⟨by rfl,?_⟩) (h := ?_)
   rotate_left
   ·(intro w hSw; (try dsimp only at hSw); go_simp; (try with_reducible rfl))
   (try simp only [Act.put,xL4,xL5,xL6])
   refine xT 3 (v := ?_) (hy := Or.inl ⟨by rfl,?_⟩) (h := ?_)
   rotate_left
   ·(intro w hSw; (try dsimp only at hSw); go_simp; (try with_reducible rfl))
   (try simp only [Act.put,xL4,xL5,xL6])
   refine xT 4 (v := ?_) (hy := Or.inl ⟨by rfl,?_⟩) (h := ?_)
   rotate_left
   ·(intro w hSw; (try dsimp only at hSw); go_simp; (try with_reducible rfl))
   (try simp only [Act.put,xL4,xL5,xL6])
   refine xT 5 (v := ?_) (hy := Or.inl ⟨by rfl,?_⟩) (h := ?_)
   rotate_left
   ·(intro w hSw; (try dsimp only at hSw); go_simp; (try with_reducible rfl))
   (try simp only [Act.put,xL4,xL5,xL6])
   refine xT 6 (v := ?_) (hy := Or.inl ⟨by rfl,?_⟩) (h := ?_)
   rotate_left
   ·(intro w hSw; (try dsimp only at hSw); go_simp; (try with_reducible rfl))
   (try simp only [Act.put,xL4,xL5,xL6])
   refine xT 7 (v := ?_) (hy := Or.inl ⟨by rfl,?_⟩) (h := ?_)
   rotate_left
   ·(intro w hSw; (try dsimp only at hSw); go_simp; (try with_reducible rfl))
   (try simp only [Act.put,xL4,xL5,xL6])
   refine xR [8] (h := ?_)
   refine xN (h := fun K hK => ?_)
   go_simp
   have hAl : Below W1.heap.size W1 (W1.alloc (.cells #[.bool false,.int .i64 0,.bool false,.slice none 0 0,.slice none 0 0,.int .i64 0,.int .i64 0,.bool false,.bool false,.slice none 0 0,.slice none 0 0,.bool false,.slice none 0 0,.slice none 0 0] 57)) := (Below.refl _ _).alloc (Nat.le_refl _) _
   have hBk : (W1.alloc (.cells #[.bool false,.int .i64 0,.bool false,.slice none 0 0,.slice none 0 0,.int .i64 0,.int .i64 0,.bool false,.bool false,.slice none 0 0,.slice none 0 0,.bool false,.slice none 0 0,.slice none 0 0] 57)).heap[W1.heap.size]? = some (.cells #[.bool false,.int .i64 0,.bool false,.slice none 0 0,.slice none 0 0,.int .i64 0,.int .i64 0,.bool false,.bool false,.slice none 0 0,.slice none 0 0,.bool false,.slice none 0 0,.slice none 0 0] 57 (0,0)) := heap_alloc_new _ _
   have VV0 := VV
   replace VV := VV.below hAl
   have XO0 := XO
   replace XO := XO.below hAl
   have NN0 := NN
   replace NN := NN.below hAl
   refine hK.out _ _ ?_ (fun hH1 => ?_)
   ·exact ⟨VV.1,XO.cell,NN.c0,NN.c1,NN.c2,NN.c3,NN.c4,NN.c5,NN.c6,NN.c7,NN.c8,NN.c9,NN.c10,NN.c11,NN.c12,NN.c13⟩
   clear hK K hHeld
   (try simp only [Act.put,xL4,xL5,xL6])
   refine xR [9] (h := ?_)
   refine xN (h := fun K hK => ?_)
   refine step_store_new rfl 57 (.tmp 7) (.tmp 22) rfl i0 HI0.out.1 W1.heap.size rfl #[.bool lf,.int .i64 ft,.bool p1,.slice a1 n1 c1,.slice b1 m1 d1,.int .i64 ll,.int .i64 rr,.bool ms,.bool p2,.slice a2 n2 c2,.slice b2 m2 d2,.bool p3,.slice a3 n3 c3,.slice b3 m3 d3] rfl #[.bool false,.int .i64 0,.bool false,.slice none 0 0,.slice none 0 0,.int .i64 0,.int .i64 0,.bool false,.bool false,.slice none 0 0,.slice none 0 0,.bool false,.slice none 0 0,.slice none 0 0] 57 hBk rfl HI0.out.2 (by simp [Value.oneCell']) ?_
   rw [alloc_setRow]
   obtain ⟨W9,hW9,hS9,hL9,VN,FN⟩ := V14.lay W1 57 (.bool lf) (.int .i64 ft) (.bool p1) (.slice a1 n1 c1) (.slice b1 m1 d1) (.int .i64 ll) (.int .i64 rr) (.bool ms) (.bool p2) (.slice a2 n2 c2) (.slice b2 m2 d2) (.bool p3) (.slice a3 n3 c3) (.slice b3 m3 d3)
   rw [← hW9]
   have hRw : w.heap.size < W1.heap.size := VV0.lt
   replace VV := VV0.below hL9
   clear VV0
   replace XO := XO0.below hL9
   clear XO0
   replace NN := NN0.below hL9
   clear NN0
   replace hO1 := hO1.below hL9
   replace BB := BB.trans (hL9.mono BB.size)
   clear hL9 hAl hBk hW9 HO1
   refine hK.out _ _ ?_ (fun hH2 => ?_)
   ·exact ⟨VV.1,XO.cell,NN.c0,NN.c1,NN.c2,NN.c3,NN.c4,NN.c5,NN.c6,NN.c7,NN.c8,NN.c9,NN.c10,NN.c11,NN.c12,NN.c13⟩
   clear hK K hH1
   (try simp only [Act.put,xL4,xL5,xL6])
   refine wpAnyH_done (by kernel_rfl) ?_ _
   clear hH2
   generalize W1.heap.size = R9 at *
   obtain ⟨V_0,V_1,V_2,V_3,V_4,V_5,V_6,V_7,V_8,V_9,V_10,V_11,V_12,V_13⟩ := id VN
   cases lf
   ·obtain ⟨e1,e2⟩ := HKD.out rfl
    obtain ⟨fe1,fe2⟩ := HFT.out rfl
    obtain ⟨fn,rfl⟩ : ∃ fn : Nat,ft = (fn : Int) := ⟨ft.toNat,by omega⟩
    subst e1 e2
    have hfn : fn < 64 := by omega
    go_wp2_with fail
    refine (xin_at s fn hs hfn _).mono ?_
    rintro e wx ⟨rfl,hwx⟩
    replace hwx := hwx.symm
    subst hwx
    have HK2 : Hid (ks = if inS s fn = true then [nx] else [kx,ky]) := by
     show ks = _
     rw [HKS.out,if_neg (by simp)]
     rfl
    have HN2 : Hid (∀ w',Below w.heap.size w w' → inS s fn = true → ∃ b off c,Value.slice ao ko co_ = .slice (some ⟨b,off,none⟩) n c ∧ n ≤ c ∧ w'.cell? ⟨b,off + x,none⟩ = some (.int .i64 (nx : Int))) := fun w' hb hi => HON.out w' hb (by first | exact trivial | rfl) hi
    clear HKS HON HKD HFT fe1 fe2
    obtain ⟨g,hg⟩ : ∃ g,inS s fn = g := ⟨_,rfl⟩
    rw [hg] at HK2 HN2 ⊢
    clear hg
    cases g
    ·have HK3 : ks = [kx,ky] := by rw [HK2.out]; rfl
     subst HK3
     have hA6 : Below W9.heap.size W9 (W9.alloc (.cells #[.int .i64 (kx : Int),.int .i64 (ky : Int)] 3)) := (Below.refl _ _).alloc (Nat.le_refl _) _
     have hnb6 := news_block (heap_alloc_new W9 (.cells #[.int .i64 (kx : Int),.int .i64 (ky : Int)] 3))
     rw [hS9] at hnb6
     have hO6 := hO1.later hA6
     have hO7 := int_len HLN.out hO6
     have VV6 := VV.below hA6
     have BB6 := BB.trans (hA6.mono BB.size)
     have hsz6 : w.heap.size + 1 ≤ (W9.alloc (.cells #[.int .i64 (kx : Int),.int .i64 (ky : Int)] 3)).heap.size := by have := VV6.lt; omega
     clear HK2 HN2
     go_wp2_with (at_builtin; refine wpList_append_pureM (Q' := fun _ => False) rfl _ _ _ rfl (w.heap.size + 1) 3 (.int .i64 0) 1 8 Tryz.underlying51 info_int rfl (by omega) (.slice (some ⟨go,0,none⟩) len co) rfl len (outs.map (fun x : Nat => Value.int .i64 (x : Int))) hO7 (fun _ _ _ _ _ h => h) ⟨R9 + 1,0,none⟩ 2 2 (by omega) (by omega) (by first | (simp; done) | rfl) [.int .i64 (kx : Int),.int .i64 (ky : Int)] rfl hnb6 (by simp [Value.oneCell']) (by simp) (by simp) (by omega) (by omega) hsz6 ?_; intro gn cn w3 hW8 hg8 hat8 _ _; have hB9 := below_grownB (Below.refl (w.heap.size + 1) _) hg8 hsz6 (fun g h => (hO6.both g h).1); have VV9 := VV6.low11 hB9 (by omega); have BB9 : Below w.heap.size w w3 := below_grownB BB6 hg8 BB6.size (fun g h => by have := (hO6.both g h).1; omega); have hO9 := int_more2 HLN.out hW8; clear hW8 hg8 hat8 hO7 hO6 BB6 VV6 hA6 hnb6 hB9 hsz6)
     go_roundw
     case rel => exact ⟨outs ++ [kx,ky],k + 1,by go_num,hO9,HQ2,VV9,BB9⟩
     case measure => simp [intOf]; omega
    ·have HK3 : ks = [nx] := by rw [HK2.out]; rfl
     subst HK3
     obtain ⟨b7,off7,c7,e7,hc7,hcl7⟩ := HN2.out _ BB rfl
     cases e7
     have XN : Cel10 W9 b7 (off7 + x) (.int .i64 (nx : Int)) := ⟨hcl7⟩
     clear HK2 HN2 hcl7 V_0 V_1 V_2 V_3 V_4 V_5 V_6 V_7 V_8 V_9 V_10 V_11 V_12 V_13 VN FN NN hS9
     go_wp2_with fail
     refine wp_region_until 10 #[true,true,true,true,true,true,true,true,true,true,false,false] (fun aF lsd a' w' => ∃ vu0 vu1 vu2 vu3 vu4 vu5 vu6 vu7 vu8 vu9 : Value,a' = (((((((((aF.put (some 38) vu0).put (some 39) vu1).put (some 40) vu2).put (some 41) vu3).put (some 42) vu4).put (some 43) vu5).put (some 44) vu6).put (some 45) vu7).put (some 46) vu8).put (some 47) vu9 ∧ Below W9.heap.size W9 w' ∧ (lsd.getD 0 false = true → vu0 = .slice (some ⟨go,0,none⟩) len co) ∧ (lsd.getD 1 false = true → vu1 = .pointer (some ⟨w.heap.size,1,none⟩)) ∧ (lsd.getD 2 false = true → vu2 = .slice (some ⟨b7,off7,none⟩) n co_) ∧ (lsd.getD 3 false = true → vu3 = .slice (some ⟨go,0,none⟩) len co) ∧ (lsd.getD 4 false = true → vu4 = .int .i64 (k : Int)) ∧ (lsd.getD 5 false = true → vu5 = .pointer (some ⟨go,k,none⟩)) ∧ (lsd.getD 6 false = true → vu6 = .int .i64 (x : Int)) ∧ (lsd.getD 7 false = true → vu7 = .pointer (some ⟨b7,off7 + x,none⟩)) ∧ (lsd.getD 8 false = true → vu8 = .int .i64 (nx : Int)) ∧ (lsd.getD 9 false = true → Blt11 W9.heap.size w' vu9 (.int .i64 (nx : Int)))) (by kernel_rfl) (by decide) (by kernel_rfl) (by rfl) (by kernel_rfl) ?_ ?_ ?_
     ·exact ⟨_,_,_,_,_,_,_,_,_,_,by simp only [Act.put,xL4,xL5,xL6]; rfl,(Below.refl _ _).drew,fun h => absurd h (fun h => mark_none h),fun h => absurd h (fun h => mark_none h),fun h => absurd h (fun h => mark_none h),fun h => absurd h (fun h => mark_none h),fun h => absurd h (fun h => mark_none h),fun h => absurd h (fun h => mark_none h),fun h => absurd h (fun h => mark_none h),fun h => absurd h (fun h => mark_none h),fun h => absurd h (fun h => mark_none h),fun h => absurd h (fun h => mark_none h)⟩
     ·rintro lsd au wn iu hszu ⟨vu0,vu1,vu2,vu3,vu4,vu5,vu6,vu7,vu8,vu9,rfl,hbu,fu0,fu1,fu2,fu3,fu4,fu5,fu6,fu7,fu8,fu9⟩ himu hru
      rcases (show iu = 0 ∨ iu = 1 ∨ iu = 2 ∨ iu = 3 ∨ iu = 4 ∨ iu = 5 ∨ iu = 6 ∨ iu = 7 ∨ iu = 8 ∨ iu = 9 by omega) with rfl | rfl | rfl | rfl | rfl | rfl | rfl | rfl | rfl | rfl
      ·refine wpOp_shut (by rfl) (fun K hK => ?_)
       simp only [Act.put,xL4,xL5,xL6]
       go_simp
       exact hK.out _ _ ⟨(.slice (some ⟨go,0,none⟩) len co),vu1,vu2,vu3,vu4,vu5,vu6,vu7,vu8,vu9,by simp only [Act.put,xL4,xL5,xL6],hbu,fun _ => rfl,fun h => fu1 (mark_of (by decide) h),fun h => fu2 (mark_of (by decide) h),fun h => fu3 (mark_of (by decide) h),fun h => fu4 (mark_of (by decide) h),fun h => fu5 (mark_of (by decide) h),fun h => fu6 (mark_of (by decide) h),fun h => fu7 (mark_of (by decide) h),fun h => fu8 (mark_of (by decide) h),fun h => fu9 (mark_of (by decide) h)⟩
      ·refine wpOp_shut (by rfl) (fun K hK => ?_)
       simp only [Act.put,xL4,xL5,xL6]
       go_simp
       exact hK.out _ _ ⟨vu0,(.pointer (some ⟨w.heap.size,1,none⟩)),vu2,vu3,vu4,vu5,vu6,vu7,vu8,vu9,by simp only [Act.put,xL4,xL5,xL6],hbu,fun h => fu0 (mark_of (by decide) h),fun _ => rfl,fun h => fu2 (mark_of (by decide) h),fun h => fu3 (mark_of (by decide) h),fun h => fu4 (mark_of (by decide) h),fun h => fu5 (mark_of (by decide) h),fun h => fu6 (mark_of (by decide) h),fun h => fu7 (mark_of (by decide) h),fun h => fu8 (mark_of (by decide) h),fun h => fu9 (mark_of (by decide) h)⟩
      ·have eu1 := fu1 (dep_of 1 hru rfl (by kernel_rfl))
       replace eu1 := eu1.symm
       subst eu1
       refine wpOp_shut (by rfl) (fun K hK => ?_)
       simp only [Act.put,xL4,xL5,xL6]
       have z1 := (VV.below hbu).2.1
       go_simp
       exact hK.out _ _ ⟨vu0,(.pointer (some ⟨w.heap.size,1,none⟩)),(.slice (some ⟨b7,off7,none⟩) n co_),vu3,vu4,vu5,vu6,vu7,vu8,vu9,by simp only [Act.put,xL4,xL5,xL6],hbu,fun h => fu0 (mark_of (by decide) h),fun _ => rfl,fun _ => rfl,fun h => fu3 (mark_of (by decide) h),fun h => fu4 (mark_of (by decide) h),fun h => fu5 (mark_of (by decide) h),fun h => fu6 (mark_of (by decide) h),fun h => fu7 (mark_of (by decide) h),fun h => fu8 (mark_of (by decide) h),fun h => fu9 (mark_of (by decide) h)⟩
      ·refine wpOp_shut (by rfl) (fun K hK => ?_)
       simp only [Act.put,xL4,xL5,xL6]
       go_simp
       exact hK.out _ _ ⟨vu0,vu1,vu2,(.slice (some ⟨go,0,none⟩) len co),vu4,vu5,vu6,vu7,vu8,vu9,by simp only [Act.put,xL4,xL5,xL6],hbu,fun h => fu0 (mark_of (by decide) h),fun h => fu1 (mark_of (by decide) h),fun h => fu2 (mark_of (by decide) h),fun _ => rfl,fun h => fu4 (mark_of (by decide) h),fun h => fu5 (mark_of (by decide) h),fun h => fu6 (mark_of (by decide) h),fun h => fu7 (mark_of (by decide) h),fun h => fu8 (mark_of (by decide) h),fun h => fu9 (mark_of (by decide) h)⟩
      ·refine wpOp_shut (by rfl) (fun K hK => ?_)
       simp only [Act.put,xL4,xL5,xL6]
       go_simp
       exact hK.out _ _ ⟨vu0,vu1,vu2,vu3,(.int .i64 (k : Int)),vu5,vu6,vu7,vu8,vu9,by simp only [Act.put,xL4,xL5,xL6],hbu,fun h => fu0 (mark_of (by decide) h),fun h => fu1 (mark_of (by decide) h),fun h => fu2 (mark_of (by decide) h),fun h => fu3 (mark_of (by decide) h),fun _ => rfl,fun h => fu5 (mark_of (by decide) h),fun h => fu6 (mark_of (by decide) h),fun h => fu7 (mark_of (by decide) h),fun h => fu8 (mark_of (by decide) h),fun h => fu9 (mark_of (by decide) h)⟩
      ·have eu3 := fu3 (dep_of 3 hru rfl (by kernel_rfl))
       have eu4 := fu4 (dep_of 4 hru rfl (by kernel_rfl))
       replace eu3 := eu3.symm
       subst eu3
       replace eu4 := eu4.symm
       subst eu4
       refine wpOp_shut (by rfl) (fun K hK => ?_)
       simp only [Act.put,xL4,xL5,xL6]
       go_simp
       exact hK.out _ _ ⟨vu0,vu1,vu2,(.slice (some ⟨go,0,none⟩) len co),(.int .i64 (k : Int)),(.pointer (some ⟨go,k,none⟩)),vu6,vu7,vu8,vu9,by simp only [Act.put,xL4,xL5,xL6],hbu,fun h => fu0 (mark_of (by decide) h),fun h => fu1 (mark_of (by decide) h),fun h => fu2 (mark_of (by decide) h),fun _ => rfl,fun _ => rfl,fun _ => rfl,fun h => fu6 (mark_of (by decide) h),fun h => fu7 (mark_of (by decide) h),fun h => fu8 (mark_of (by decide) h),fun h => fu9 (mark_of (by decide) h)⟩
      ·have eu5 := fu5 (dep_of 5 hru rfl (by kernel_rfl))
       replace eu5 := eu5.symm
       subst eu5
       refine wpOp_shut (by rfl) (fun K hK => ?_)
       simp only [Act.put,xL4,xL5,xL6]
       have z1 := (XO.below hbu).cell
       go_simp
       exact hK.out _ _ ⟨vu0,vu1,vu2,vu3,vu4,(.pointer (some ⟨go,k,none⟩)),(.int .i64 (x : Int)),vu7,vu8,vu9,by simp only [Act.put,xL4,xL5,xL6],hbu,fun h => fu0 (mark_of (by decide) h),fun h => fu1 (mark_of (by decide) h),fun h => fu2 (mark_of (by decide) h),fun h => fu3 (mark_of (by decide) h),fun h => fu4 (mark_of (by decide) h),fun _ => rfl,fun _ => rfl,fun h => fu7 (mark_of (by decide) h),fun h => fu8 (mark_of (by decide) h),fun h => fu9 (mark_of (by decide) h)⟩
      ·have eu2 := fu2 (dep_of 2 hru rfl (by kernel_rfl))
       have eu6 := fu6 (dep_of 6 hru rfl (by kernel_rfl))
       replace eu2 := eu2.symm
       subst eu2
       replace eu6 := eu6.symm
       subst eu6
       refine wpOp_shut (by rfl) (fun K hK => ?_)
       simp only [Act.put,xL4,xL5,xL6]
       go_simp
       exact hK.out _ _ ⟨vu0,vu1,(.slice (some ⟨b7,off7,none⟩) n co_),vu3,vu4,vu5,(.int .i64 (x : Int)),(.pointer (some ⟨b7,off7 + x,none⟩)),vu8,vu9,by simp only [Act.put,xL4,xL5,xL6],hbu,fun h => fu0 (mark_of (by decide) h),fun h => fu1 (mark_of (by decide) h),fun _ => rfl,fun h => fu3 (mark_of (by decide) h),fun h => fu4 (mark_of (by decide) h),fun h => fu5 (mark_of (by decide) h),fun _ => rfl,fun _ => rfl,fun h => fu8 (mark_of (by decide) h),fun h => fu9 (mark_of (by decide) h)⟩
      ·have eu7 := fu7 (dep_of 7 hru rfl (by kernel_rfl))
       replace eu7 := eu7.symm
       subst eu7
       refine wpOp_shut (by rfl) (fun K hK => ?_)
       simp only [Act.put,xL4,xL5,xL6]
       have z1 := (XN.below hbu).cell
       go_simp
       exact hK.out _ _ ⟨vu0,vu1,vu2,vu3,vu4,vu5,vu6,(.pointer (some ⟨b7,off7 + x,none⟩)),(.int .i64 (nx : Int)),vu9,by simp only [Act.put,xL4,xL5,xL6],hbu,fun h => fu0 (mark_of (by decide) h),fun h => fu1 (mark_of (by decide) h),fun h => fu2 (mark_of (by decide) h),fun h => fu3 (mark_of (by decide) h),fun h => fu4 (mark_of (by decide) h),fun h => fu5 (mark_of (by decide) h),fun h => fu6 (mark_of (by decide) h),fun _ => rfl,fun _ => rfl,fun h => fu9 (mark_of (by decide) h)⟩
      ·have eu8 := fu8 (dep_of 8 hru rfl (by kernel_rfl))
       replace eu8 := eu8.symm
       subst eu8
       refine wpOp_shut (by rfl) (fun K hK => ?_)
       simp only [Act.put,xL4,xL5,xL6]
       go_simp
       obtain ⟨wx,hWx,hSx,bu,VXu⟩ := V1.lay wn 3 (.int .i64 (nx : Int))
       rw [← hWx]
       have hbu2 := hbu.trans (bu.mono hbu.size)
       exact hK.out _ _ ⟨vu0,vu1,vu2,vu3,vu4,vu5,vu6,vu7,(.int .i64 (nx : Int)),_,by simp only [Act.put,xL4,xL5,xL6],hbu2,fun h => fu0 (mark_of (by decide) h),fun h => fu1 (mark_of (by decide) h),fun h => fu2 (mark_of (by decide) h),fun h => fu3 (mark_of (by decide) h),fun h => fu4 (mark_of (by decide) h),fun h => fu5 (mark_of (by decide) h),fun h => fu6 (mark_of (by decide) h),fun h => fu7 (mark_of (by decide) h),fun _ => rfl,fun _ => ⟨_,rfl,hbu.size,VXu⟩⟩
     rintro au Wu1 ⟨vu0,vu1,vu2,vu3,vu4,vu5,vu6,vu7,vu8,vu9,rfl,hbu,fu0,fu1,fu2,fu3,fu4,fu5,fu6,fu7,fu8,fu9⟩
     have eu0 := (fu0 rfl).symm
     subst eu0
     have eu1 := (fu1 rfl).symm
     subst eu1
     have eu2 := (fu2 rfl).symm
     subst eu2
     have eu3 := (fu3 rfl).symm
     subst eu3
     have eu4 := (fu4 rfl).symm
     subst eu4
     have eu5 := (fu5 rfl).symm
     subst eu5
     have eu6 := (fu6 rfl).symm
     subst eu6
     have eu7 := (fu7 rfl).symm
     subst eu7
     have eu8 := (fu8 rfl).symm
     subst eu8
     obtain ⟨RB9,rfl,hRB9,VB9⟩ := fu9 rfl
     clear fu0 fu1 fu2 fu3 fu4 fu5 fu6 fu7 fu8 fu9
     replace VV := VV.below hbu
     replace XO := XO.below hbu
     replace XN := XN.below hbu
     replace hO1 := hO1.below hbu
     replace BB := BB.trans (hbu.mono BB.size)
     clear hbu
     simp only [Act.put,xL4,xL5,xL6]
     refine xR [10] (h := ?_)
     refine AllReadyH.cons (by rfl) (fun K hK => ?_) AllReadyH.nil
     have hO7 := int_len HLN.out hO1
     have hsz6 : w.heap.size + 1 ≤ Wu1.heap.size := by have := VV.lt; omega
     refine step_append_pure (Q' := fun _ => False) (by rfl) _ _ _ (by rfl) (w.heap.size + 1) 3 (.int .i64 0) 1 8 Tryz.underlying51 info_int (by rfl) (by omega) (.slice (some ⟨go,0,none⟩) len co) (by rfl) len (outs.map (fun x : Nat => Value.int .i64 (x : Int))) hO7 (fun _ _ _ _ _ h => h) ⟨RB9,0,none⟩ 1 (by rfl) [.int .i64 (nx : Int)] rfl (news_v1 VB9) (by simp [Value.oneCell']) (by simp) (by simp) (by omega) (by omega) hsz6 ?_
     intro gn cn w3 hW8 hg8 hat8 _ _
     have hB9 := below_grownB (Below.refl (w.heap.size + 1) _) hg8 hsz6 (fun g h => (hO1.both g h).1)
     have VV9 := VV.low11 hB9 (by omega)
     have BB9 : Below w.heap.size w w3 := below_grownB BB hg8 BB.size (fun g h => by have := (hO1.both g h).1; omega)
     have hO9 := int_more1 HLN.out hW8
     clear hW8 hg8 hat8 hO7 hO1 BB VV hB9 hsz6
     refine hK.out _ _ trivial (fun _ => ?_)
     clear hK K
     simp only [Act.put,xL4,xL5,xL6]
     refine xR [11] (h := ?_)
     refine AllReadyH.cons (by rfl) (fun K hK => ?_) AllReadyH.nil
     go_simp
     refine hK.out _ _ trivial (fun _ => ?_)
     clear hK K
     simp only [Act.put,xL4,xL5,xL6]
     refine wpAnyH_done (by kernel_rfl) ?_ _
     go_wp2
     go_roundw
     case rel => exact ⟨outs ++ [nx],k + 1,by go_num,hO9,HQ2,VV9,BB9⟩
     case measure => simp [intOf]; omega
   ·have HK2 : ks = [] := by rw [HKS.out]; rfl
    subst HK2
    go_wp2
    go_roundw
    case rel => exact ⟨outs,k + 1,by go_num,hO1,(by show QInv _ _ _ _ _ _; simpa using HQ2.out),VV,BB⟩
    case measure => simp [intOf]; omega
  ·obtain rfl : k = len := by omega
   have g1 : ¬ (k : Int) < (k : Int) := by omega
   go_wp2
   go_ret
   exact ⟨_,rfl,outs,hO1.le (by omega),by have := HQ.out; rw [HLN.out]; exact this,BB⟩





set_option maxRecDepth 20000 in
set_option maxHeartbeats 1000000 in
theorem number9_at (p : Bool) (s t : Value) (n m : Nat) (f g : Nat → Int) (w : World) (h : Raw w s n f) (k : Raw w t m g) :
  Calls Tryz.prog 59 #[.agg #[.bool p,s,t]] w fun e w' => FewOut p (min n 3) (min m 3) f g w e w' := by
 have hA : ∀ o o',Below w.heap.size w ((w.alloc o).alloc o') := fun o o' => ((Below.refl _ _).alloc (Nat.le_refl _) _).alloc (by simp) _
 obtain ⟨ao,c,rfl,hnil,hnc,hcm,hu,h4⟩ := h
 obtain ⟨bo,d,rfl,knil,knc,kcm,ku,k4⟩ := k
 unfold maxLen at hcm kcm
 by_cases hlt : 3 < n
 ·obtain ⟨b1,off1,rfl,hc⟩ := h4 (by omega)
  have hN : Nums .u64 w (.slice (some ⟨b1,off1,none⟩) 3 c) 3 f := ⟨_,_,rfl,by omega,by unfold LIM; omega,fun _ => ⟨_,_,rfl,hc.mono (by omega)⟩⟩
  have hi : (n : Int) > 3 := by omega
  rw [show min n 3 = 3 by omega]
  by_cases klt : 3 < m
  ·obtain ⟨b2,off2,rfl,kc⟩ := k4 (by omega)
   have kN : Nums .u64 w (.slice (some ⟨b2,off2,none⟩) 3 d) 3 g := ⟨_,_,rfl,by omega,by unfold LIM; omega,fun _ => ⟨_,_,rfl,kc.mono (by omega)⟩⟩
   have ki : (m : Int) > 3 := by omega
   rw [show min m 3 = 3 by omega]
   go_enter Tryz.func59,Tryz.ntmps59
   go_wp2
   refine bodyPost_ret (v := .agg #[.bool p,.slice (some ⟨b1,off1,none⟩) 3 c,.slice (some ⟨b2,off2,none⟩) 3 d]) (by simp [results,go_sem]) rfl ?_
   exact ⟨_,_,_,_,rfl,hN.below (hA _ _),fun i hi => hu i (by omega),kN.below (hA _ _),fun i hi => ku i (by omega),hA _ _⟩
  ·have kN : Nums .u64 w (.slice bo m d) m g := ⟨_,_,rfl,knc,by unfold LIM; omega,k4⟩
   have ki : ¬ (m : Int) > 3 := by omega
   rw [show min m 3 = m by omega]
   go_enter Tryz.func59,Tryz.ntmps59
   go_wp2
   refine bodyPost_ret (v := .agg #[.bool p,.slice (some ⟨b1,off1,none⟩) 3 c,.slice bo m d]) (by simp [results,go_sem]) rfl ?_
   exact ⟨_,_,_,_,rfl,hN.below (hA _ _),fun i hi => hu i (by omega),kN.below (hA _ _),fun i hi => ku i (by omega),hA _ _⟩
 ·have hN : Nums .u64 w (.slice ao n c) n f := ⟨_,_,rfl,hnc,by unfold LIM; omega,h4⟩
  have hi : ¬ (n : Int) > 3 := by omega
  rw [show min n 3 = n by omega]
  by_cases klt : 3 < m
  ·obtain ⟨b2,off2,rfl,kc⟩ := k4 (by omega)
   have kN : Nums .u64 w (.slice (some ⟨b2,off2,none⟩) 3 d) 3 g := ⟨_,_,rfl,by omega,by unfold LIM; omega,fun _ => ⟨_,_,rfl,kc.mono (by omega)⟩⟩
   have ki : (m : Int) > 3 := by omega
   rw [show min m 3 = 3 by omega]
   go_enter Tryz.func59,Tryz.ntmps59
   go_wp2
   refine bodyPost_ret (v := .agg #[.bool p,.slice ao n c,.slice (some ⟨b2,off2,none⟩) 3 d]) (by simp [results,go_sem]) rfl ?_
   exact ⟨_,_,_,_,rfl,hN.below (hA _ _),fun i hi => hu i (by omega),kN.below (hA _ _),fun i hi => ku i (by omega),hA _ _⟩
  ·have kN : Nums .u64 w (.slice bo m d) m g := ⟨_,_,rfl,knc,by unfold LIM; omega,k4⟩
   have ki : ¬ (m : Int) > 3 := by omega
   rw [show min m 3 = m by omega]
   go_enter Tryz.func59,Tryz.ntmps59
   go_wp2
   refine bodyPost_ret (v := .agg #[.bool p,.slice ao n c,.slice bo m d]) (by simp [results,go_sem]) rfl ?_
   exact ⟨_,_,_,_,rfl,hN.below (hA _ _),fun i hi => hu i (by omega),kN.below (hA _ _),fun i hi => ku i (by omega),hA _ _⟩
end Go.Proofs.YtgddiimnpliolaaGreatDoor
