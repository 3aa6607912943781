/-
  Texts of mine, joined: what lies beneath the statement.
-/
import Derived.Test.YtieeneaebjihlaaGreatDoorJ8483336d6a
import Derived.Test.YtieeneaebjihlaaGreatDoorJ08c4e6be3f
import Derived.Test.YtieeneaebjihlaaGreatDoorJ61119b3224
import Derived.Test.YtieeneaebjihlaaGreatDoorJ0bdc9dde62
import Derived.Deep.Cut
import Derived.Deep.CutRange
namespace Go.Proofs.YtieeneaebjihlaaGreatDoor
open Go.RowKit
set_option linter.unusedVariables false
set_option linter.unusedSimpArgs false

/-- A row that is a power of another one. -/
def PowRow (w : World) (v : Value) (n : Nat) (q : Nat → Rat) (k S : Nat) : Prop := ∃ (l : Nat) (R : Nat → Rat),FRow w v l R ∧ l ≤ 1 + 5 * k ∧ (0 < l → R (l - 1) ≠ 0) ∧ (∀ i,co l R i = cpow (co n q) k i) ∧ ∀ i,i < l → qsz (R i) ≤ S
theorem PowRow.below {w w' : World} {v : Value} {n : Nat} {q : Nat → Rat} {k S : Nat} (h : PowRow w v n q k S) (hb : Below w.heap.size w w') : PowRow w' v n q k S := let ⟨l,R,h1,h2⟩ := h; ⟨l,R,h1.below hb,h2⟩

/-- How long the numbers of a rest may be, by the length of what it was divided by. -/
def uz : Nat → Nat
 | 0 => 10607
 | 1 => 4393
 | 2 => 1819
 | 3 => 753
 | 4 => 311
 | 5 => 129
 | 6 => 51
 | _ => 25
theorem trimN_full (q : Nat → Rat) : ∀ n,(0 < n → q (n - 1) ≠ 0) → trimN q n = n
 | 0,_ => rfl
 | n + 1,h => by
  have := h (by omega)
  simp only [Nat.add_sub_cancel] at this
  show (if q n = 0 then trimN q n else n + 1) = n + 1
  rw [if_neg this]
theorem allS_div {la lb ha hb S : Nat} {a b : Nat → Rat} (fa : IForm la a ha) (fb : IForm lb b hb) (h0 : 0 < lb) (htop : b (lb - 1) ≠ 0) (h1 : 1 ≤ ha) (hS : ha + (la - (lb - 1)) * (hb + 1) ≤ S) : allS la b (lb - 1) S (la - (lb - 1)) a := by
 by_cases h : la - (lb - 1) = 0
 ·rw [h]; intro i hi; exact Nat.le_trans (fa.sz h1 i hi) (by omega)
 ·exact allS_form (fb.less (by omega)) htop _ ha a fa h1 (by omega) hS
theorem form_div {la lb ha hb : Nat} {a b : Nat → Rat} (fa : IForm la a ha) (fb : IForm lb b hb) (h0 : 0 < lb) (htop : b (lb - 1) ≠ 0) : IForm la (divR b (lb - 1) (la - (lb - 1)) a) (ha + (la - (lb - 1)) * (hb + 1)) := by
 by_cases h : la - (lb - 1) = 0
 ·rw [h]; exact fa.le (by omega)
 ·exact IForm.div (fb.less (by omega)) htop _ ha a fa (by omega)
/-- A quotient and a rest, coefficient by coefficient. -/
theorem div_co2 (a b : Nat → Rat) (la lb : Nat) (h0 : 0 < lb) (htop : b (lb - 1) ≠ 0) (i : Nat) :
  co la a i = cmul (co (la - (lb - 1)) (divQ b (lb - 1) (la - (lb - 1)) a)) (co lb b) i + co (min la (lb - 1)) (divR b (lb - 1) (la - (lb - 1)) a) i := by
 rw [← conv_cmul]
 by_cases hk : la - (lb - 1) = 0
 ·rw [hk,conv_none,show min la (lb - 1) = la by omega]
  show co la a i = 0 + co la a i
  grind
 ·by_cases hi : i < la
  ·have d := div_all b (lb - 1) htop (la - (lb - 1)) a i (by omega)
   rw [show lb - 1 + 1 = lb by omega] at d
   rw [co_lt hi,d]
   congr 1
   unfold co
   rw [show min la (lb - 1) = lb - 1 by omega]
  ·rw [conv_far _ _ _ _ _ (by omega),co_beyond _ _ _ (by omega),co_beyond _ _ _ (by omega)]
   grind
theorem Dv_div {d a b : Nat → Rat} {la lb : Nat} (h0 : 0 < lb) (htop : b (lb - 1) ≠ 0) (hb : Dv d (co lb b)) : Dv d (co la a) ↔ Dv d (co (min la (lb - 1)) (divR b (lb - 1) (la - (lb - 1)) a)) :=
 Dv.rest (M := la - (lb - 1)) (fun i hi => co_ge (by omega)) (div_co2 a b la lb h0 htop) hb
/-- Nothing is left where the divisor divides. -/
theorem div_none {a b : Nat → Rat} {la lb : Nat} (h0 : 0 < lb) (htop : b (lb - 1) ≠ 0) (h : Dv (co lb b) (co la a)) : trimN (divR b (lb - 1) (la - (lb - 1)) a) (min la (lb - 1)) = 0 := by
 have hd := (Dv_div (a := a) (la := la) h0 htop (Dv.self _)).1 h
 have hz := Dv.short h0 htop hd (fun i hi => co_ge (by omega))
 rcases Nat.eq_zero_or_pos (trimN (divR b (lb - 1) (la - (lb - 1)) a) (min la (lb - 1))) with e | e
 ·exact e
 ·have ht := trimN_top _ _ e
  have hl := trimN_le (divR b (lb - 1) (la - (lb - 1)) a) (min la (lb - 1))
  have := hz (trimN (divR b (lb - 1) (la - (lb - 1)) a) (min la (lb - 1)) - 1)
  rw [co_lt (by omega)] at this
  exact absurd this ht
theorem Dv_monic {d r : Nat → Rat} {l : Nat} {s : Rat} (hs : s ≠ 0) : Dv d (co l (fun i => r i * s)) ↔ Dv d (co l r) := by
 have e : ∀ i,co l (fun i => r i * s) i = co l r i * s := fun i => by
  by_cases h : i < l
  ·rw [co_lt h,co_lt h]
  ·rw [co_ge h,co_ge h,Rat.zero_mul]
 constructor
 ·intro h
  exact (h.scale s⁻¹).congr (fun i => by rw [e,Rat.mul_assoc,Rat.mul_inv_cancel _ hs,Rat.mul_one])
 ·intro h
  exact (h.scale s).congr (fun i => (e i).symm)

set_option maxRecDepth 20000 in
set_option maxHeartbeats 4000000 in
theorem plinkq_some (v x : Value) (n L X : Nat) (q : Nat → Rat) (r : Rat) (w : World) (hv : QRow w v n q L) (hx : RepQ w x r) (sx : qsz r ≤ X) (ht : Tab w) (hL : 1 ≤ L) (hn1 : n ≤ 1000) (hS : L + X ≤ 40000) (h0 : 0 < trimN q n) :
  Calls Tryz.prog 51 #[v,x] w fun e w' => ∃ y p3 a3 n3 c3 bo3 m3 d3,e = .returned (.agg #[y,.bool p3,.slice a3 n3 c3,.slice bo3 m3 d3]) ∧ FNew w.heap.size w' y (trimN q n) (fun i => q i * (q (trimN q n - 1))⁻¹) ∧ RepQ w' (.agg #[.bool p3,.slice a3 n3 c3,.slice bo3 m3 d3]) (q (trimN q n - 1) * r) ∧ Below w.heap.size w w' := by
 obtain ⟨px,ax,nx,cx,bx,mx,dx,rfl⟩ := hx.open
 have sq : ∀ i,i < n → qsz (q i) ≤ L := fun i hi => hv.sz hL i hi
 obtain ⟨ao,c,rfl,_,_,_⟩ := hv.open
 have BB : Below w.heap.size w w := Below.refl _ _
 obtain ⟨Wb0,hW0,hS0,hL0,VX⟩ := V3.lay w 28 (.bool px) (.slice ax nx cx) (.slice bx mx dx)
 replace hv := hv.below hL0
 replace hx := hx.below hL0
 replace ht := ht.below hL0
 replace BB := BB.trans (hL0.mono BB.size)
 clear hL0
 obtain ⟨Wb1,hW1,hS1,hL1,VL⟩ := V4.lay Wb0 60 (.slice none 0 0) (.bool false) (.slice none 0 0) (.slice none 0 0)
 rw [hS0] at VL hS1
 replace hv := hv.below hL1
 replace hx := hx.below hL1
 replace ht := ht.below hL1
 replace VX := VX.below hL1
 replace BB := BB.trans (hL1.mono BB.size)
 clear hL1
 go_enter Tryz.func51,Tryz.ntmps51
 go_wp2_with fail
 rw [← hW0]
 rw [← hW1]
 clear hW0 hW1 hS0 hS1
 refine (ptrim_at _ n q L _ hv hL (by omega)).mono ?_
 rintro e w1 ⟨ao2,c2,hvv,rfl,b1⟩
 replace hv := hv.below b1
 replace hx := hx.below b1
 replace ht := ht.below b1
 replace VX := VX.below b1
 replace VL := VL.below b1
 replace BB := BB.trans (b1.mono BB.size)
 clear b1
 cases hvv
 have hle := trimN_le q n
 obtain ⟨ao3,c3,hv3,FP⟩ := QRow.pre hv (trimN q n) hle
 cases hv3
 have htop := trimN_idem q n
 clear hv
 obtain ⟨m,hm⟩ : ∃ m,m = trimN q n := ⟨_,rfl⟩
 rw [← hm] at FP hle h0 htop ⊢
 have HM : Hid (m = trimN q n) := hm
 clear hm
 have h0i : ¬ (m : Int) = 0 := by omega
 have e1_ : ((m : Int) == 0) = false := by simp; omega
 go_wp2_with fail
 (try rw [e1_])
 refine wp_region_until 6 #[true,true,true,true,true,true,false,false] (fun aF lsd a' w' => ∃ vu0 vu1 vu2 vu3 vu4 vu5 : Value,a' = (((((aF.put (some 11) vu0).put (some 12) vu1).put (some 13) vu2).put (some 14) vu3).put (some 15) vu4).put (some 16) vu5 ∧ Below w1.heap.size w1 w' ∧ (lsd.getD 0 false = true → vu0 = .slice ao m m) ∧ (lsd.getD 1 false = true → FNew w1.heap.size w' vu1 m (fun i => q i * (q (m - 1))⁻¹)) ∧ (lsd.getD 2 false = true → vu2 = .slice ao m m) ∧ (lsd.getD 3 false = true → RatAt w' vu3 (q (m - 1)) L) ∧ (lsd.getD 4 false = true → vu4 = .agg #[.bool px,.slice ax nx cx,.slice bx mx dx]) ∧ (lsd.getD 5 false = true → RepQ w' vu5 (q (m - 1) * r))) (by kernel_rfl) (by decide) (by kernel_rfl) (by rfl) (by kernel_rfl) ?_ ?_ ?_
 ·exact ⟨_,_,_,_,_,_,by simp only [Act.put,xL4,xL5,xL6]; rfl,(Below.refl _ _).drew,fun h => absurd h (fun h => mark_none h),fun h => absurd h (fun h => mark_none h),fun h => absurd h (fun h => mark_none h),fun h => absurd h (fun h => mark_none h),fun h => absurd h (fun h => mark_none h),fun h => absurd h (fun h => mark_none h)⟩
 ·rintro lsd au wn iu hszu ⟨vu0,vu1,vu2,vu3,vu4,vu5,rfl,hbu,fu0,fu1,fu2,fu3,fu4,fu5⟩ himu hru
  rcases (show iu = 0 ∨ iu = 1 ∨ iu = 2 ∨ iu = 3 ∨ iu = 4 ∨ iu = 5 by omega) with rfl | rfl | rfl | rfl | rfl | rfl
  ·refine wpOp_shut (by rfl) (fun K hK => ?_)
   simp only [Act.put,xL4,xL5,xL6]
   go_simp
   exact hK.out _ _ ⟨(.slice ao m m),vu1,vu2,vu3,vu4,vu5,by simp only [Act.put,xL4,xL5,xL6],hbu,fun _ => rfl,fun h => fu1 (mark_of (by decide) h),fun h => fu2 (mark_of (by decide) h),fun h => fu3 (mark_of (by decide) h),fun h => fu4 (mark_of (by decide) h),fun h => fu5 (mark_of (by decide) h)⟩
  ·have eu0 := fu0 (dep_of 0 hru rfl (by kernel_rfl))
   replace eu0 := eu0.symm
   subst eu0
   refine wpOp_shut (by rfl) (fun K hK => ?_)
   simp only [Act.put,xL4,xL5,xL6]
   have ht := ht.below hbu
   have FP := FP.below hbu
   go_simp
   refine (pmonic_at _ m q L _ FP ht (by omega) hL (by omega)).mono ?_
   rintro eu wx ⟨x1,rfl,FM,bu⟩
   rw [htop] at FM
   replace FM := FM.le hbu.size
   go_wp2_with fail
   have hbu2 := hbu.trans (bu.mono hbu.size)
   exact hK.out _ _ ⟨(.slice ao m m),_,vu2,vu3,vu4,vu5,by simp only [Act.put,xL4,xL5,xL6],hbu2,fun _ => rfl,fun _ => FM,fun h => fu2 (mark_of (by decide) h),fun h => (fu3 (mark_of (by decide) h)).below bu,fun h => fu4 (mark_of (by decide) h),fun h => (fu5 (mark_of (by decide) h)).below bu⟩
  ·refine wpOp_shut (by rfl) (fun K hK => ?_)
   simp only [Act.put,xL4,xL5,xL6]
   go_simp
   exact hK.out _ _ ⟨vu0,vu1,(.slice ao m m),vu3,vu4,vu5,by simp only [Act.put,xL4,xL5,xL6],hbu,fun h => fu0 (mark_of (by decide) h),fun h => fu1 (mark_of (by decide) h),fun _ => rfl,fun h => fu3 (mark_of (by decide) h),fun h => fu4 (mark_of (by decide) h),fun h => fu5 (mark_of (by decide) h)⟩
  ·have eu2 := fu2 (dep_of 2 hru rfl (by kernel_rfl))
   replace eu2 := eu2.symm
   subst eu2
   have FM := fu1 (dep_of 1 hru rfl (by kernel_rfl))
   refine wpOp_shut (by rfl) (fun K hK => ?_)
   simp only [Act.put,xL4,xL5,xL6]
   have FP := FP.below hbu
   go_simp
   refine (ptop_at _ m q L _ FP (by omega) (by omega)).mono ?_
   rintro eu wx ⟨x3,rfl,h3,bu⟩
   go_wp2_with fail
   have hbu2 := hbu.trans (bu.mono hbu.size)
   exact hK.out _ _ ⟨vu0,vu1,(.slice ao m m),_,vu4,vu5,by simp only [Act.put,xL4,xL5,xL6],hbu2,fun h => fu0 (mark_of (by decide) h),fun h => (fu1 (mark_of (by decide) h)).below bu,fun _ => rfl,fun _ => h3,fun h => fu4 (mark_of (by decide) h),fun h => (fu5 (mark_of (by decide) h)).below bu⟩
  ·refine wpOp_shut (by rfl) (fun K hK => ?_)
   simp only [Act.put,xL4,xL5,xL6]
   obtain ⟨VX_0,VX_1,VX_2,VX_3,VX_4,VX_5⟩ := VX.below hbu
   go_simp
   exact hK.out _ _ ⟨vu0,vu1,vu2,vu3,(.agg #[.bool px,.slice ax nx cx,.slice bx mx dx]),vu5,by simp only [Act.put,xL4,xL5,xL6],hbu,fun h => fu0 (mark_of (by decide) h),fun h => fu1 (mark_of (by decide) h),fun h => fu2 (mark_of (by decide) h),fun h => fu3 (mark_of (by decide) h),fun _ => rfl,fun h => fu5 (mark_of (by decide) h)⟩
  ·have eu4 := fu4 (dep_of 4 hru rfl (by kernel_rfl))
   replace eu4 := eu4.symm
   subst eu4
   have h3 := fu3 (dep_of 3 hru rfl (by kernel_rfl))
   refine wpOp_shut (by rfl) (fun K hK => ?_)
   simp only [Act.put,xL4,xL5,xL6]
   have hx := hx.below hbu
   have ht := ht.below hbu
   go_simp
   refine (qmul_at _ _ (q (m - 1)) r (L + X) _ (h3.le (by omega)) (hx.at _ (by omega)) (by omega) (by omega) ht).mono ?_
   rintro eu wx ⟨x5,rfl,h5,bu⟩
   go_wp2_with fail
   have hbu2 := hbu.trans (bu.mono hbu.size)
   exact hK.out _ _ ⟨vu0,vu1,vu2,vu3,(.agg #[.bool px,.slice ax nx cx,.slice bx mx dx]),_,by simp only [Act.put,xL4,xL5,xL6],hbu2,fun h => fu0 (mark_of (by decide) h),fun h => (fu1 (mark_of (by decide) h)).below bu,fun h => fu2 (mark_of (by decide) h),fun h => (fu3 (mark_of (by decide) h)).below bu,fun _ => rfl,fun _ => h5⟩
 rintro au Wu1 ⟨vu0,vu1,vu2,vu3,vu4,vu5,rfl,hbu,fu0,fu1,fu2,fu3,fu4,fu5⟩
 have eu0 := (fu0 rfl).symm
 subst eu0
 have FM := fu1 rfl
 have eu2 := (fu2 rfl).symm
 subst eu2
 have h3 := fu3 rfl
 have eu4 := (fu4 rfl).symm
 subst eu4
 have h5 := fu5 rfl
 clear fu0 fu1 fu2 fu3 fu4 fu5
 have hlVX : w.heap.size < w1.heap.size := VX.lt
 have hlVL : w.heap.size + 1 < w1.heap.size := VL.lt
 replace hx := hx.below hbu
 replace ht := ht.below hbu
 replace FP := FP.below hbu
 replace VX := VX.below hbu
 replace VL := VL.below hbu
 replace BB := BB.trans (hbu.mono BB.size)
 clear hbu
 simp only [Act.put,xL4,xL5,xL6]
 refine xR [6] (h := ?_)
 refine AllReadyH.cons (by rfl) (fun K hK => ?_) AllReadyH.nil
 obtain ⟨am,cm,rfl⟩ := FM.1.open
 obtain ⟨p3,a3,n3,c3,bo3,m3,d3,rfl⟩ := h5.open
 go_simp
 refine hK.out _ _ trivial (fun _ => ?_)
 clear hK K
 simp only [Act.put,xL4,xL5,xL6]
 refine xR [7] (h := ?_)
 refine AllReadyH.cons (by rfl) (fun K hK => ?_) AllReadyH.nil
 have hKp := VL.keepJ (.slice am m cm) (.bool p3) (.slice a3 n3 c3) (.slice bo3 m3 d3)
 have hsz := VL.lt
 have FMn := (FM.other (grown_set4 Wu1 (w.heap.size + 1) (.slice am m cm) (.bool p3) (.slice a3 n3 c3) (.slice bo3 m3 d3)) hKp (fun g hg => by cases hg; omega)).le (by omega : w.heap.size ≤ _)
 have h5n := h5.keep hKp
 have BBn := below_store4 (R := w.heap.size + 1) BB (by omega) (.slice am m cm) (.bool p3) (.slice a3 n3 c3) (.slice bo3 m3 d3)
 obtain ⟨⟨y1,y2,y3,_,_,_⟩,y4,_⟩ := VL.same (.slice am m cm) (.bool p3) (.slice a3 n3 c3) (.slice bo3 m3 d3)
 obtain ⟨⟨x1,x2,x3,x4,x5,x6⟩,x7,x8⟩ := VL
 go_simp
 clear x1 x2 x3 x4 x5 x6 x7 x8
 refine hK.out _ _ trivial (fun _ => ?_)
 clear hK K
 simp only [Act.put,xL4,xL5,xL6]
 refine wpAnyH_done (by kernel_rfl) ?_ _
 go_wp2
 (try simp only [Exit.inBlock,Exit.then])
 refine bodyPost_ret (v := .agg #[.slice am m cm,.bool p3,.slice a3 n3 c3,.slice bo3 m3 d3]) (by simp [results,go_sem,y1,y2,y3,y4]) rfl ?_
 exact ⟨_,p3,a3,n3,c3,bo3,m3,d3,rfl,by rw [← HM.out]; exact FMn,by rw [← HM.out]; exact h5n,BBn⟩


theorem plinkq_val (v x : Value) (n L X : Nat) (q q' : Nat → Rat) (r r' : Rat) (w : World) (hv : QRow w v n q L) (hx : RepQ w x r) (sx : qsz r ≤ X) (ht : Tab w) (hL : 1 ≤ L) (hn1 : n ≤ 1000) (hS : L + X ≤ 40000) (N : Nat) (hN : trimN q n = N) (h0 : 0 < N) (hq : ∀ i,i < N → q i * (q (N - 1))⁻¹ = q' i) (hr : q (N - 1) * r = r') :
  Calls Tryz.prog 51 #[v,x] w fun e w' => ∃ y,e = .returned y ∧ LinkVal w.heap.size w' y N q' r' ∧ Below w.heap.size w w' := by
 subst hN
 refine (plinkq_some v x n L X q r w hv hx sx ht hL hn1 hS h0).mono ?_
 rintro e w' ⟨y,p,a,n3,c,b,m,d,rfl,f,g,hb⟩
 obtain ⟨am,cm,rfl⟩ := f.open
 rw [hr] at g
 exact ⟨_,rfl,⟨am,cm,p,a,n3,c,b,m,d,rfl,f.congr hq,g⟩,hb⟩

/-- T links, as IsChain says; no number that a division works out is longer than 40000 limbs. -/
structure IsChainS (T : Nat) (N : Nat → Nat) (Q : Nat → Nat → Rat) (R : Nat → Rat) (L : Nat) : Prop where
 pos : ∀ t,t < T → 0 < N t
 zero : N T = 0
 small : ∀ t,t < T → N t ≤ 1000
 sz : ∀ t i,t < T → i < N t → qsz (Q t i) ≤ L
 szR : ∀ t,t < T → qsz (R t) ≤ L
 top : ∀ t,t < T → Q t (N t - 1) ≠ 0
 len : ∀ t,t + 1 < T → trimN (restQ N Q t) (min (N t) (N (t + 1) - 1)) = N (t + 2)
 all : ∀ t,t + 1 < T → allS (N t) (Q (t + 1)) (N (t + 1) - 1) 40000 (N t - (N (t + 1) - 1)) (Q t)
 szr : ∀ t i,t + 1 < T → i < N (t + 2) → qsz (restQ N Q t i) ≤ L
 next : ∀ t,t + 2 < T → (∀ i,i < N (t + 2) → restQ N Q t i * (restQ N Q t (N (t + 2) - 1))⁻¹ = Q (t + 2) i) ∧ restQ N Q t (N (t + 2) - 1) * -(R t) = R (t + 2)
 most : L ≤ 20000
 least : 2 ≤ L


set_option maxRecDepth 100000 in
set_option maxHeartbeats 8000000 in
theorem plinksS_at (v : Value) (n : Nat) (q : Nat → Rat) (T : Nat) (N : Nat → Nat) (Q : Nat → Nat → Rat) (R : Nat → Rat) (L : Nat) (w : World) (hv : QRow w v n q L) (ht : Tab w) (hC : IsChainS T N Q R L) (hT : 2 ≤ T) (hTM : T ≤ 1000000) (hn : n ≤ 1000) (e0 : trimN q n = N 0) (e1 : ∀ i,i < N 0 → q i * (q (N 0 - 1))⁻¹ = Q 0 i) (e2 : q (N 0 - 1) * 1 = R 0) (d0 : trimN (fun i => q (i + 1) * (((i + 1 : Nat) : Int) : Rat)) (n - 1) = N 1) (d1 : ∀ i,i < N 1 → (fun i => q (i + 1) * (((i + 1 : Nat) : Int) : Rat)) i * ((fun i => q (i + 1) * (((i + 1 : Nat) : Int) : Rat)) (N 1 - 1))⁻¹ = Q 1 i) (d2 : (fun i => q (i + 1) * (((i + 1 : Nat) : Int) : Rat)) (N 1 - 1) * 1 = R 1) (sd : ∀ i,i < N 1 → qsz ((fun i => q (i + 1) * (((i + 1 : Nat) : Int) : Rat)) i) ≤ L) :
  Calls Tryz.prog 32 #[v] w fun e w' => ∃ u,e = .returned u ∧ CRow w' u T N Q R ∧ Below w.heap.size w w' := by
 have hL2 := hC.least
 have hLM := hC.most
 have HP0 := hC.pos 0 (by omega)
 have HP1 := hC.pos 1 (by omega)
 have HS1 := hC.small 1 (by omega)
 have HC : Hid (IsChainS T N Q R L) := hC
 clear hC
 have S1 : qsz (1 : Rat) ≤ L := Nat.le_trans (by decide +kernel) hL2
 obtain ⟨ao,c,rfl,_,_,_⟩ := hv.open
 have BB : Below w.heap.size w w := Below.refl _ _
 go_enter Tryz.func32,Tryz.ntmps32
 go_wp2_with fail
 refine (qone_at _).mono ?_
 rintro e w1 ⟨x1,rfl,h1,b1⟩
 replace hv := hv.below b1
 replace ht := ht.below b1
 replace BB := BB.trans (b1.mono BB.size)
 clear b1
 go_wp2_with fail
 refine (plinkq_val _ _ n L L q (Q 0) 1 (R 0) _ hv h1 S1 ht (by omega) hn (by omega) (N 0) e0 HP0 e1 e2).mono ?_
 rintro e w2 ⟨y0,rfl,K0,b2⟩
 replace hv := hv.below b2
 replace ht := ht.below b2
 replace h1 := h1.below b2
 replace BB := BB.trans (b2.mono BB.size)
 clear b2
 go_wp2_with fail
 clear h1
 refine (pderive_at _ n q L _ hv ht (by omega) hL2 (by omega)).mono ?_
 rintro e w3 ⟨x2,rfl,FD,b3⟩
 replace hv := hv.below b3
 replace ht := ht.below b3
 replace K0 := K0.below b3
 replace BB := BB.trans (b3.mono BB.size)
 clear b3
 rw [d0] at FD
 go_wp2_with fail
 refine (qone_at _).mono ?_
 rintro e w4 ⟨x3,rfl,h3,b4⟩
 replace hv := hv.below b4
 replace ht := ht.below b4
 replace K0 := K0.below b4
 replace FD := FD.below b4
 replace BB := BB.trans (b4.mono BB.size)
 clear b4
 go_wp2_with fail
 refine (plink_val _ _ (N 1) L L (fun i => q (i + 1) * (((i + 1 : Nat) : Int) : Rat)) (Q 1) 1 (R 1) _ FD.1 h3 sd S1 ht (by omega) HS1 (by omega) (N 1) (trimN_self d0) HP1 d1 d2).mono ?_
 rintro e w5 ⟨y1,rfl,K1,b5⟩
 replace hv := hv.below b5
 replace ht := ht.below b5
 replace K0 := K0.below b5
 replace FD := FD.below b5
 replace h3 := h3.below b5
 replace BB := BB.trans (b5.mono BB.size)
 clear b5
 clear h3 FD hv
 obtain ⟨am0,cm0,p0,a0,n0,c0,b0,m0,d0_,rfl,F0,r0⟩ := K0
 obtain ⟨am1,cm1,p1,a1,n1,c1,b1,m1,d1_,rfl,F1,r1⟩ := K1
 have FF0 := F0.1.ffar
 have FF1 := F1.1.ffar
 clear F0 F1
 have hZ1 : w.heap.size ≤ w5.heap.size := BB.size
 obtain ⟨W2,hW2,hS2,hL2,VA⟩ := V4.lay w5 60 (.slice am0 (N 0) cm0) (.bool p0) (.slice a0 n0 c0) (.slice b0 m0 d0_)
 replace ht := ht.below hL2
 replace FF0 := FF0.below hL2
 replace FF1 := FF1.below hL2
 replace r0 := r0.below hL2
 replace r1 := r1.below hL2
 replace BB := BB.trans (hL2.mono BB.size)
 clear hL2
 obtain ⟨W3,hW3,hS3,hL3,VB⟩ := V4.lay W2 60 (.slice am1 (N 1) cm1) (.bool p1) (.slice a1 n1 c1) (.slice b1 m1 d1_)
 replace ht := ht.below hL3
 replace FF0 := FF0.below hL3
 replace FF1 := FF1.below hL3
 replace r0 := r0.below hL3
 replace r1 := r1.below hL3
 replace VA := VA.below hL3
 replace BB := BB.trans (hL3.mono BB.size)
 clear hL3
 rw [hS2] at VB
 go_upto_if 18 with (fail)
 rw [← hW2]
 rw [← hW3]
 generalize w5.heap.size = R1 at *
 clear hW2 hS2 hW3 hS3
 have hVA := VA.lt
 have hVB := VB.lt
 have hZ0 : w.heap.size ≤ R1 := by omega
 have HN0 : (0 : Int) < (N 0 : Int) := by omega
 obtain ⟨⟨x1,x2,x3,x4,x5,x6⟩,x7,x8⟩ := id VA
 have A2 : Below W3.heap.size W3 (W3.alloc (.cells #[.slice am0 (N 0) cm0,.bool p0,.slice a0 n0 c0,.slice b0 m0 d0_] 60)) := (Below.refl _ _).alloc (Nat.le_refl _) _
 go_wp2_with (at_builtin; refine wpList_append_pure (Q' := IsNum) rfl _ _ _ rfl w.heap.size 60 (.agg #[.slice none 0 0,.bool false,.slice none 0 0,.slice none 0 0]) 4 80 Tryz.underlying57 info_link rfl (by omega) (.slice none 0 0) rfl (0) ([]) (World.ownsRow_nil _ _ _ _) (fun g hg => by cases hg) ⟨W3.heap.size,0,none⟩ 1 rfl [.slice am0 (N 0) cm0,.bool p0,.slice a0 n0 c0,.slice b0 m0 d0_] rfl (news_block (heap_alloc_new _ _)) (by simp [Value.oneCell']) (by simp [num_slice,num_bool]) (by simp [Value.cells,num_slice,num_bool]) (by omega) (by omega) (by have := BB.size; simp; omega) ?_)
 intro g5 cap5 w5 ho5 hg5 hat5 hp5 hk5
 clear x1 x2 x3 x4 x5 x6 x7 x8
 replace hat5 : (Value.slice none 0 0).ownBlock = some g5 ∨ g5 = (W3.alloc (.cells #[.slice am0 (N 0) cm0,.bool p0,.slice a0 n0 c0,.slice b0 m0 d0_] 60)).heap.size := by rw [World.size_alloc]; exact hat5
 have hb5 := below_grown hg5
 have A5 : Below W3.heap.size W3 w5 := A2.trans (hb5.mono A2.size)
 have E5 : COwn R1 (R1 + 1) w.heap.size w5 (.slice (some ⟨g5,0,none⟩) (0 + 1) cap5) (0 + 1) N Q R := COwn.more (World.ownsRow_nil _ _ _ _) (fun g hg => by cases hg) (fun i hi => by omega) ⟨FF0.fap.below A2,r0.below A2⟩ (by have := A2.size; omega) (by have := A2.size; omega) ho5 hg5 hat5 hp5 hk5
 have K0 : LinkAt R1 (R1 + 1) (some g5) w5 (.slice am0 (N 0) cm0) p0 a0 n0 c0 b0 m0 d0_ (N 0) (Q 0) (R 0) := LinkAt.grow (o := none) ⟨FF0.fap.below A2,r0.below A2⟩ hg5 hk5 (.inr (by rcases hat5 with h | h; cases h; rw [h]))
 have K1 : LinkAt R1 (R1 + 1) (some g5) w5 (.slice am1 (N 1) cm1) p1 a1 n1 c1 b1 m1 d1_ (N 1) (Q 1) (R 1) := LinkAt.grow (o := none) ⟨FF1.fap.below A2,r1.below A2⟩ hg5 hk5 (.inr (by rcases hat5 with h | h; cases h; rw [h]))
 replace VA := VA.below A5
 replace VB := VB.below A5
 replace ht := ht.below A5
 have B5 : Below w.heap.size w w5 := BB.trans (A5.mono BB.size)
 clear A2 A5 hb5 ho5 hg5 hat5 hp5 hk5 BB FF0 FF1 r0 r1
 go_wp2
 go_loopw [3] (fun vo wr => ∃ (t g cap : Nat) (y : Value) (p : Bool) (a : Option Addr) (n c : Nat) (b : Option Addr) (m d : Nat),t < T ∧ vo = .slice (some ⟨g,0,none⟩) (t + 1) cap ∧ V4 wr R1 y (.bool p) (.slice a n c) (.slice b m d) ∧ LinkAt R1 (R1 + 1) (some g) wr y p a n c b m d (N t) (Q t) (R t) ∧ NextVar R1 (R1 + 1) (some g) wr T N Q R (t + 1) ∧ COwn R1 (R1 + 1) w.heap.size wr (.slice (some ⟨g,0,none⟩) (t + 1) cap) (t + 1) N Q R ∧ Tab wr ∧ Below w.heap.size w wr) (fun vo _ => T - lenC vo)
 case atStart => exact ⟨0,g5,cap5,_,_,_,_,_,_,_,_,by omega,rfl,VA,K0,.inl ⟨by omega,_,_,_,_,_,_,_,_,VB,K1⟩,E5,ht,B5⟩
 case round =>
  obtain ⟨t,g,cap,y,p,a,n_,c_,b,m,d_,ht1,rfl,VA,KA,NV,CO,ht,BB⟩ := hrel
  rcases NV with ⟨hlt,y2,p2,a2,n2,c2,b2,m2,d2_,VB,KB⟩ | ⟨hEnd,VB⟩
  ·obtain ⟨ay,cy,rfl⟩ := KA.1.1.open
   obtain ⟨ay2,cy2,rfl⟩ := KB.1.1.open
   have hp2 := HC.out.pos (t + 1) hlt
   have hpi : (0 : Int) < (N (t + 1) : Int) := by omega
   obtain ⟨us,uo,u1,u2⟩ := CO
   have hVA := VA.lt
   have hVB := VB.lt
   obtain ⟨⟨x1,x2,x3,x4,x5,x6⟩,x7,x8⟩ := id VB
   have A2 : Below wr.heap.size wr (wr.alloc (.cells #[.slice ay2 (N (t + 1)) cy2,.bool p2,.slice a2 n2 c2,.slice b2 m2 d2_] 60)) := (Below.refl _ _).alloc (Nat.le_refl _) _
   have HU1 : Hid (∀ g0,(Value.slice (some ⟨g,0,none⟩) (t + 1) cap).ownBlock = some g0 → PureB IsNum wr g0 ∧ g0 ≠ R1 ∧ g0 ≠ R1 + 1) := u1
   have HU2 := u2
   have HU2h : Hid (∀ i,i < t + 1 → ∃ y p a n c b m d,us[i * 4]? = some y ∧ us[i * 4 + 1]? = some (.bool p) ∧ us[i * 4 + 2]? = some (.slice a n c) ∧ us[i * 4 + 3]? = some (.slice b m d) ∧ LinkAt R1 (R1 + 1) (some g) wr y p a n c b m d (N i) (Q i) (R i)) := u2
   clear u1 u2 HU2
   have htb : t ≤ 1000000 := Nat.le_trans (Nat.le_of_lt ht1) hTM
   go_wp2_with (at_builtin; refine wpList_append_pure (Q' := IsNum) rfl _ _ _ rfl w.heap.size 60 (.agg #[.slice none 0 0,.bool false,.slice none 0 0,.slice none 0 0]) 4 80 Tryz.underlying57 info_link rfl (by omega) (.slice (some ⟨g,0,none⟩) (t + 1) cap) rfl (t + 1) (us) (uo.alloc _) (fun g0 hg0 => (HU1.out g0 hg0).1.below A2 (uo.lt g0 hg0).2) ⟨wr.heap.size,0,none⟩ 1 rfl [.slice ay2 (N (t + 1)) cy2,.bool p2,.slice a2 n2 c2,.slice b2 m2 d2_] rfl (news_block (heap_alloc_new _ _)) (by simp [Value.oneCell']) (by simp [num_slice,num_bool]) (by simp [Value.cells,num_slice,num_bool]) (by omega) (by omega) (by have := BB.size; simp; omega) ?_)
   intro g5 cap5 w5 ho5 hg5 hat5 hp5 hk5
   clear x1 x2 x3 x4 x5 x6 x7 x8
   replace hat5 : (Value.slice (some ⟨g,0,none⟩) (t + 1) cap).ownBlock = some g5 ∨ g5 = (wr.alloc (.cells #[.slice ay2 (N (t + 1)) cy2,.bool p2,.slice a2 n2 c2,.slice b2 m2 d2_] 60)).heap.size := by rw [World.size_alloc]; exact hat5
   have ho' : some g5 = some g ∨ some g5 = some (wr.alloc (.cells #[.slice ay2 (N (t + 1)) cy2,.bool p2,.slice a2 n2 c2,.slice b2 m2 d2_] 60)).heap.size := by rcases hat5 with h | h; exact .inl h.symm; exact .inr (by rw [h])
   have E5 : COwn R1 (R1 + 1) w.heap.size w5 (.slice (some ⟨g5,0,none⟩) (t + 1 + 1) cap5) (t + 1 + 1) N Q R := COwn.more (owns_later uo A2) (fun g0 hg0 => ⟨(HU1.out g0 hg0).1.below A2 (uo.lt g0 hg0).2,(HU1.out g0 hg0).2⟩) (fun i hi => let ⟨y,p,a,n,c,b,m,d,e1,e2,e3,e4,k⟩ := HU2h.out i hi; ⟨y,p,a,n,c,b,m,d,e1,e2,e3,e4,k.below A2⟩) (KB.below A2) (by have := A2.size; omega) (by have := A2.size; omega) ho5 hg5 hat5 hp5 hk5
   obtain ⟨hgA,hgB⟩ := (HU1.out g rfl).2
   have KA5 := (KA.below A2).grow hg5 hk5 ho'
   have KB5 := (KB.below A2).grow hg5 hk5 ho'
   have VA5 := (VA.below A2).grown hg5 (fun e => by injection e with e; exact hgA e.symm)
   have VB5 := (VB.below A2).grown hg5 (fun e => by injection e with e; exact hgB e.symm)
   have ht5 := (ht.below A2).keep hk5
   have B5 : Below w.heap.size w w5 := below_grownB (BB.trans (A2.mono BB.size)) hg5 (by have := BB.size; have := A2.size; omega) (fun g0 hg0 => (uo.lt g0 hg0).1)
   clear A2 ho5 hg5 hat5 hp5 hk5 ho' HU1 HU2h uo KA KB VA VB ht BB
   have KA := KA5
   have KB := KB5
   have VA := VA5
   have VB := VB5
   have ht := ht5
   have BB := B5
   have CO := E5
   clear KA5 KB5 VA5 VB5 ht5 B5 E5
   obtain ⟨⟨x1,x2,x3,x4,x5,x6⟩,x7,x8⟩ := id VA
   obtain ⟨⟨z1,z2,z3,z4,z5,z6⟩,z7,z8⟩ := id VB
   go_wp2_with fail
   clear x1 x2 x3 x4 x5 x6 x7 x8 z1 z2 z3 z4 z5 z6 z7 z8
   refine (pdivide_S _ _ (N t) (N (t + 1)) (Q t) (Q (t + 1)) L 40000 _ KA.1.1 KB.1.1 (fun i hi => HC.out.sz (t + 1) i hlt hi) ht (HC.out.small t ht1) (HC.out.small (t + 1) hlt) hp2 (HC.out.top (t + 1) hlt) (by omega) (by omega) (by omega) (HC.out.all t hlt)).mono ?_
   rintro e w6 ⟨xq,yr,rfl,FQ,FR_,b6⟩
   replace KA := KA.below b6
   replace KB := KB.below b6
   replace CO := CO.below b6
   replace ht := ht.below b6
   replace VA := VA.below b6
   replace VB := VB.below b6
   replace BB := BB.trans (b6.mono BB.size)
   clear b6
   have hlen := HC.out.len t hlt
   unfold restQ at hlen
   rw [hlen] at FR_
   have FR : FNew w5.heap.size w6 yr (N (t + 2)) (restQ N Q t) := FR_
   clear FR_ FQ hlen
   obtain ⟨ar,cr,rfl⟩ := FR.1.open
   go_wp2_with fail
   have hgl : g5 < w6.heap.size := CO.lt rfl
   by_cases hl2 : t + 2 < T
   ·refine wp_region_until 6 #[true,true,true,true,true,true,false,false] (fun aF lsd a' w' => ∃ vu0 vu1 vu2 vu3 vu4 vu5 : Value,a' = (((((aF.put (some 39) vu0).put (some 40) vu1).put (some 41) vu2).put (some 42) vu3).put (some 43) vu4).put (some 44) vu5 ∧ Below w6.heap.size w6 w' ∧ (lsd.getD 0 false = true → vu0 = .agg #[.slice ay2 (N (t + 1)) cy2,.bool p2,.slice a2 n2 c2,.slice b2 m2 d2_]) ∧ (lsd.getD 1 false = true → vu1 = .slice ar (N (t + 2)) cr) ∧ (lsd.getD 2 false = true → vu2 = .pointer (some ⟨R1,1,none⟩)) ∧ (lsd.getD 3 false = true → vu3 = .agg #[.bool p,.slice a n_ c_,.slice b m d_]) ∧ (lsd.getD 4 false = true → RepQ w' vu4 (-(R t))) ∧ (lsd.getD 5 false = true → LinkVal w6.heap.size w' vu5 (N (t + 2)) (Q (t + 2)) (R (t + 2)))) (by kernel_rfl) (by decide) (by kernel_rfl) (by rfl) (by kernel_rfl) ?_ ?_ ?_
    ·exact ⟨_,_,_,_,_,_,by simp only [Act.put,xL4,xL5,xL6]; rfl,(Below.refl _ _).drew,fun h => absurd h (fun h => mark_none h),fun h => absurd h (fun h => mark_none h),fun h => absurd h (fun h => mark_none h),fun h => absurd h (fun h => mark_none h),fun h => absurd h (fun h => mark_none h),fun h => absurd h (fun h => mark_none h)⟩
    ·rintro lsd au wn iu hszu ⟨vu0,vu1,vu2,vu3,vu4,vu5,rfl,hbu,fu0,fu1,fu2,fu3,fu4,fu5⟩ himu hru
     rcases (show iu = 0 ∨ iu = 1 ∨ iu = 2 ∨ iu = 3 ∨ iu = 4 ∨ iu = 5 by omega) with rfl | rfl | rfl | rfl | rfl | rfl
     ·refine wpOp_shut (by rfl) (fun K hK => ?_)
      simp only [Act.put,xL4,xL5,xL6]
      obtain ⟨⟨x1,x2,x3,x4,x5,x6⟩,x7,x8⟩ := VB.below hbu
      go_simp
      exact hK.out _ _ ⟨(.agg #[.slice ay2 (N (t + 1)) cy2,.bool p2,.slice a2 n2 c2,.slice b2 m2 d2_]),vu1,vu2,vu3,vu4,vu5,by simp only [Act.put,xL4,xL5,xL6],hbu,fun _ => rfl,fun h => fu1 (mark_of (by decide) h),fun h => fu2 (mark_of (by decide) h),fun h => fu3 (mark_of (by decide) h),fun h => fu4 (mark_of (by decide) h),fun h => fu5 (mark_of (by decide) h)⟩
     ·refine wpOp_shut (by rfl) (fun K hK => ?_)
      simp only [Act.put,xL4,xL5,xL6]
      go_simp
      exact hK.out _ _ ⟨vu0,(.slice ar (N (t + 2)) cr),vu2,vu3,vu4,vu5,by simp only [Act.put,xL4,xL5,xL6],hbu,fun h => fu0 (mark_of (by decide) h),fun _ => rfl,fun h => fu2 (mark_of (by decide) h),fun h => fu3 (mark_of (by decide) h),fun h => fu4 (mark_of (by decide) h),fun h => fu5 (mark_of (by decide) h)⟩
     ·refine wpOp_shut (by rfl) (fun K hK => ?_)
      simp only [Act.put,xL4,xL5,xL6]
      go_simp
      exact hK.out _ _ ⟨vu0,vu1,(.pointer (some ⟨R1,1,none⟩)),vu3,vu4,vu5,by simp only [Act.put,xL4,xL5,xL6],hbu,fun h => fu0 (mark_of (by decide) h),fun h => fu1 (mark_of (by decide) h),fun _ => rfl,fun h => fu3 (mark_of (by decide) h),fun h => fu4 (mark_of (by decide) h),fun h => fu5 (mark_of (by decide) h)⟩
     ·have eu2 := fu2 (dep_of 2 hru rfl (by kernel_rfl))
      replace eu2 := eu2.symm
      subst eu2
      refine wpOp_shut (by rfl) (fun K hK => ?_)
      simp only [Act.put,xL4,xL5,xL6]
      obtain ⟨⟨x1,x2,x3,x4,x5,x6⟩,x7,x8⟩ := VA.below hbu
      go_simp
      exact hK.out _ _ ⟨vu0,vu1,(.pointer (some ⟨R1,1,none⟩)),(.agg #[.bool p,.slice a n_ c_,.slice b m d_]),vu4,vu5,by simp only [Act.put,xL4,xL5,xL6],hbu,fun h => fu0 (mark_of (by decide) h),fun h => fu1 (mark_of (by decide) h),fun _ => rfl,fun _ => rfl,fun h => fu4 (mark_of (by decide) h),fun h => fu5 (mark_of (by decide) h)⟩
     ·have eu3 := fu3 (dep_of 3 hru rfl (by kernel_rfl))
      replace eu3 := eu3.symm
      subst eu3
      refine wpOp_shut (by rfl) (fun K hK => ?_)
      simp only [Act.put,xL4,xL5,xL6]
      have KA := KA.below hbu
      have ht := ht.below hbu
      go_simp
      refine (qneg_at _ (R t) L _ (KA.2.at L (HC.out.szR t ht1)) (by omega) (by omega) ht).mono ?_
      rintro eu wx ⟨x4,rfl,h4,bu⟩
      go_wp2_with fail
      have hbu2 := hbu.trans (bu.mono hbu.size)
      exact hK.out _ _ ⟨vu0,vu1,vu2,(.agg #[.bool p,.slice a n_ c_,.slice b m d_]),_,vu5,by simp only [Act.put,xL4,xL5,xL6],hbu2,fun h => fu0 (mark_of (by decide) h),fun h => fu1 (mark_of (by decide) h),fun h => fu2 (mark_of (by decide) h),fun _ => rfl,fun _ => h4,fun h => (fu5 (mark_of (by decide) h)).below bu⟩
     ·have eu1 := fu1 (dep_of 1 hru rfl (by kernel_rfl))
      replace eu1 := eu1.symm
      subst eu1
      have h4 := fu4 (dep_of 4 hru rfl (by kernel_rfl))
      refine wpOp_shut (by rfl) (fun K hK => ?_)
      simp only [Act.put,xL4,xL5,xL6]
      have ht := ht.below hbu
      have FR := FR.below hbu
      go_simp
      refine (plink_val _ _ (N (t + 2)) L L (restQ N Q t) (Q (t + 2)) (-(R t)) (R (t + 2)) _ FR.1 h4 (fun i hi => HC.out.szr t i hlt hi) (qsz_neg_le (HC.out.szR t ht1)) ht (by omega) (HC.out.small _ hl2) (by omega) (N (t + 2)) (trimN_self (HC.out.len t hlt)) (HC.out.pos _ hl2) (HC.out.next t hl2).1 (HC.out.next t hl2).2).mono ?_
      rintro eu wx ⟨x5,rfl,h5,bu⟩
      replace h5 := LinkVal.le h5 hbu.size
      go_wp2_with fail
      have hbu2 := hbu.trans (bu.mono hbu.size)
      exact hK.out _ _ ⟨vu0,(.slice ar (N (t + 2)) cr),vu2,vu3,vu4,_,by simp only [Act.put,xL4,xL5,xL6],hbu2,fun h => fu0 (mark_of (by decide) h),fun _ => rfl,fun h => fu2 (mark_of (by decide) h),fun h => fu3 (mark_of (by decide) h),fun h => (fu4 (mark_of (by decide) h)).below bu,fun _ => h5⟩
    rintro au Wu4 ⟨vu0,vu1,vu2,vu3,vu4,vu5,rfl,hbu,fu0,fu1,fu2,fu3,fu4,fu5⟩
    have eu0 := (fu0 rfl).symm
    subst eu0
    have eu1 := (fu1 rfl).symm
    subst eu1
    have eu2 := (fu2 rfl).symm
    subst eu2
    have eu3 := (fu3 rfl).symm
    subst eu3
    have h4 := fu4 rfl
    have h5 := fu5 rfl
    clear fu0 fu1 fu2 fu3 fu4 fu5
    have hlVA : R1 < w6.heap.size := VA.lt
    have hlVB : R1 + 1 < w6.heap.size := VB.lt
    replace KA := KA.below hbu
    replace KB := KB.below hbu
    replace CO := CO.below hbu
    replace ht := ht.below hbu
    replace FR := FR.below hbu
    replace VA := VA.below hbu
    replace VB := VB.below hbu
    replace BB := BB.trans (hbu.mono BB.size)
    clear hbu
    simp only [Act.put,xL4,xL5,xL6]
    refine xR [6] (h := ?_)
    refine AllReadyH.cons (by rfl) (fun K hK => ?_) AllReadyH.nil
    obtain ⟨am5,cm5,p5,a5,n5,c5,b5,m5,d5,rfl,F5,r5⟩ := h5
    clear FR h4
    have hKp := VA.keepJ (.slice ay2 (N (t + 1)) cy2) (.bool p2) (.slice a2 n2 c2) (.slice b2 m2 d2_)
    have hGr := grown_set4 Wu4 (R1) (.slice ay2 (N (t + 1)) cy2) (.bool p2) (.slice a2 n2 c2) (.slice b2 m2 d2_)
    have VA_n := VA.same (.slice ay2 (N (t + 1)) cy2) (.bool p2) (.slice a2 n2 c2) (.slice b2 m2 d2_)
    have VB_n := VB.other4 (R := R1) (by omega) (.slice ay2 (N (t + 1)) cy2) (.bool p2) (.slice a2 n2 c2) (.slice b2 m2 d2_)
    have KA_n := KA.store (.inl rfl) hGr hKp
    have KB_n := KB.store (.inl rfl) hGr hKp
    have CO_n := CO.store (.inl rfl) hGr hKp
    have ht_n := ht.keep hKp
    have BB_n := below_store4 (R := R1) BB (by omega) (.slice ay2 (N (t + 1)) cy2) (.bool p2) (.slice a2 n2 c2) (.slice b2 m2 d2_)
    have F5_n := F5.other hGr hKp (fun g hg => by cases hg; omega)
    have r5_n := r5.keep hKp
    obtain ⟨⟨x1,x2,x3,x4,x5,x6⟩,x7,x8⟩ := id VA
    go_simp
    clear x1 x2 x3 x4 x5 x6 x7 x8
    clear hKp hGr VA VB KA KB CO ht BB F5 r5
    generalize (((Wu4.setCell ⟨R1,0,none⟩ (.slice ay2 (N (t + 1)) cy2)).setCell ⟨R1,1,none⟩ (.bool p2)).setCell ⟨R1,2,none⟩ (.slice a2 n2 c2)).setCell ⟨R1,3,none⟩ (.slice b2 m2 d2_) = W5 at *
    have VA := VA_n
    have VB := VB_n
    have KA := KA_n
    have KB := KB_n
    have CO := CO_n
    have ht := ht_n
    have BB := BB_n
    have F5 := F5_n
    have r5 := r5_n
    clear VA_n VB_n KA_n KB_n CO_n ht_n BB_n F5_n r5_n
    refine hK.out _ _ trivial (fun _ => ?_)
    clear hK K
    simp only [Act.put,xL4,xL5,xL6]
    refine xR [7] (h := ?_)
    refine AllReadyH.cons (by rfl) (fun K hK => ?_) AllReadyH.nil
    have hKp := VB.keepJ (.slice am5 (N (t + 2)) cm5) (.bool p5) (.slice a5 n5 c5) (.slice b5 m5 d5)
    have hGr := grown_set4 W5 (R1 + 1) (.slice am5 (N (t + 2)) cm5) (.bool p5) (.slice a5 n5 c5) (.slice b5 m5 d5)
    have VB_n := VB.same (.slice am5 (N (t + 2)) cm5) (.bool p5) (.slice a5 n5 c5) (.slice b5 m5 d5)
    have VA_n := VA.other4 (R := R1 + 1) (by omega) (.slice am5 (N (t + 2)) cm5) (.bool p5) (.slice a5 n5 c5) (.slice b5 m5 d5)
    have KA_n := KA.store (.inr rfl) hGr hKp
    have KB_n := KB.store (.inr rfl) hGr hKp
    have CO_n := CO.store (.inr rfl) hGr hKp
    have ht_n := ht.keep hKp
    have BB_n := below_store4 (R := R1 + 1) BB (by omega) (.slice am5 (N (t + 2)) cm5) (.bool p5) (.slice a5 n5 c5) (.slice b5 m5 d5)
    have F5_n := F5.other hGr hKp (fun g hg => by cases hg; omega)
    have r5_n := r5.keep hKp
    obtain ⟨⟨x1,x2,x3,x4,x5,x6⟩,x7,x8⟩ := id VB
    go_simp
    clear x1 x2 x3 x4 x5 x6 x7 x8
    clear hKp hGr VA VB KA KB CO ht BB F5 r5
    generalize (((W5.setCell ⟨R1 + 1,0,none⟩ (.slice am5 (N (t + 2)) cm5)).setCell ⟨R1 + 1,1,none⟩ (.bool p5)).setCell ⟨R1 + 1,2,none⟩ (.slice a5 n5 c5)).setCell ⟨R1 + 1,3,none⟩ (.slice b5 m5 d5) = W6 at *
    have VA := VA_n
    have VB := VB_n
    have KA := KA_n
    have KB := KB_n
    have CO := CO_n
    have ht := ht_n
    have BB := BB_n
    have F5 := F5_n
    have r5 := r5_n
    clear VA_n VB_n KA_n KB_n CO_n ht_n BB_n F5_n r5_n
    refine hK.out _ _ trivial (fun _ => ?_)
    clear hK K
    simp only [Act.put,xL4,xL5,xL6]
    refine wpAnyH_done (by kernel_rfl) ?_ _
    go_wp2
    go_roundw
    case rel => exact ⟨t + 1,g5,cap5,_,_,_,_,_,_,_,_,hlt,rfl,VA,KB,.inl ⟨hl2,_,_,_,_,_,_,_,_,VB,F5.fap (by omega) (by omega) (fun g0 hg0 => by injection hg0 with hg0; omega),r5⟩,CO,ht,BB⟩
    case measure => simp only [lenC]; omega
   ·have hz0 : trimN (restQ N Q t) (N (t + 2)) = 0 := by have h1 := HC.out.zero; rw [show t + 2 = T by omega]; rw [h1]; rfl
    refine wp_region_until 6 #[true,true,true,true,true,true,false,false] (fun aF lsd a' w' => ∃ vu0 vu1 vu2 vu3 vu4 vu5 : Value,a' = (((((aF.put (some 39) vu0).put (some 40) vu1).put (some 41) vu2).put (some 42) vu3).put (some 43) vu4).put (some 44) vu5 ∧ Below w6.heap.size w6 w' ∧ (lsd.getD 0 false = true → vu0 = .agg #[.slice ay2 (N (t + 1)) cy2,.bool p2,.slice a2 n2 c2,.slice b2 m2 d2_]) ∧ (lsd.getD 1 false = true → vu1 = .slice ar (N (t + 2)) cr) ∧ (lsd.getD 2 false = true → vu2 = .pointer (some ⟨R1,1,none⟩)) ∧ (lsd.getD 3 false = true → vu3 = .agg #[.bool p,.slice a n_ c_,.slice b m d_]) ∧ (lsd.getD 4 false = true → RepQ w' vu4 (-(R t))) ∧ (lsd.getD 5 false = true → vu5 = .agg #[.slice none 0 0,.bool false,.slice none 0 0,.slice none 0 0])) (by kernel_rfl) (by decide) (by kernel_rfl) (by rfl) (by kernel_rfl) ?_ ?_ ?_
    ·exact ⟨_,_,_,_,_,_,by simp only [Act.put,xL4,xL5,xL6]; rfl,(Below.refl _ _).drew,fun h => absurd h (fun h => mark_none h),fun h => absurd h (fun h => mark_none h),fun h => absurd h (fun h => mark_none h),fun h => absurd h (fun h => mark_none h),fun h => absurd h (fun h => mark_none h),fun h => absurd h (fun h => mark_none h)⟩
    ·rintro lsd au wn iu hszu ⟨vu0,vu1,vu2,vu3,vu4,vu5,rfl,hbu,fu0,fu1,fu2,fu3,fu4,fu5⟩ himu hru
     rcases (show iu = 0 ∨ iu = 1 ∨ iu = 2 ∨ iu = 3 ∨ iu = 4 ∨ iu = 5 by omega) with rfl | rfl | rfl | rfl | rfl | rfl
     ·refine wpOp_shut (by rfl) (fun K hK => ?_)
      simp only [Act.put,xL4,xL5,xL6]
      obtain ⟨⟨x1,x2,x3,x4,x5,x6⟩,x7,x8⟩ := VB.below hbu
      go_simp
      exact hK.out _ _ ⟨(.agg #[.slice ay2 (N (t + 1)) cy2,.bool p2,.slice a2 n2 c2,.slice b2 m2 d2_]),vu1,vu2,vu3,vu4,vu5,by simp only [Act.put,xL4,xL5,xL6],hbu,fun _ => rfl,fun h => fu1 (mark_of (by decide) h),fun h => fu2 (mark_of (by decide) h),fun h => fu3 (mark_of (by decide) h),fun h => fu4 (mark_of (by decide) h),fun h => fu5 (mark_of (by decide) h)⟩
     ·refine wpOp_shut (by rfl) (fun K hK => ?_)
      simp only [Act.put,xL4,xL5,xL6]
      go_simp
      exact hK.out _ _ ⟨vu0,(.slice ar (N (t + 2)) cr),vu2,vu3,vu4,vu5,by simp only [Act.put,xL4,xL5,xL6],hbu,fun h => fu0 (mark_of (by decide) h),fun _ => rfl,fun h => fu2 (mark_of (by decide) h),fun h => fu3 (mark_of (by decide) h),fun h => fu4 (mark_of (by decide) h),fun h => fu5 (mark_of (by decide) h)⟩
     ·refine wpOp_shut (by rfl) (fun K hK => ?_)
      simp only [Act.put,xL4,xL5,xL6]
      go_simp
      exact hK.out _ _ ⟨vu0,vu1,(.pointer (some ⟨R1,1,none⟩)),vu3,vu4,vu5,by simp only [Act.put,xL4,xL5,xL6],hbu,fun h => fu0 (mark_of (by decide) h),fun h => fu1 (mark_of (by decide) h),fun _ => rfl,fun h => fu3 (mark_of (by decide) h),fun h => fu4 (mark_of (by decide) h),fun h => fu5 (mark_of (by decide) h)⟩
     ·have eu2 := fu2 (dep_of 2 hru rfl (by kernel_rfl))
      replace eu2 := eu2.symm
      subst eu2
      refine wpOp_shut (by rfl) (fun K hK => ?_)
      simp only [Act.put,xL4,xL5,xL6]
      obtain ⟨⟨x1,x2,x3,x4,x5,x6⟩,x7,x8⟩ := VA.below hbu
      go_simp
      exact hK.out _ _ ⟨vu0,vu1,(.pointer (some ⟨R1,1,none⟩)),(.agg #[.bool p,.slice a n_ c_,.slice b m d_]),vu4,vu5,by simp only [Act.put,xL4,xL5,xL6],hbu,fun h => fu0 (mark_of (by decide) h),fun h => fu1 (mark_of (by decide) h),fun _ => rfl,fun _ => rfl,fun h => fu4 (mark_of (by decide) h),fun h => fu5 (mark_of (by decide) h)⟩
     ·have eu3 := fu3 (dep_of 3 hru rfl (by kernel_rfl))
      replace eu3 := eu3.symm
      subst eu3
      refine wpOp_shut (by rfl) (fun K hK => ?_)
      simp only [Act.put,xL4,xL5,xL6]
      have KA := KA.below hbu
      have ht := ht.below hbu
      go_simp
      refine (qneg_at _ (R t) L _ (KA.2.at L (HC.out.szR t ht1)) (by omega) (by omega) ht).mono ?_
      rintro eu wx ⟨x4,rfl,h4,bu⟩
      go_wp2_with fail
      have hbu2 := hbu.trans (bu.mono hbu.size)
      exact hK.out _ _ ⟨vu0,vu1,vu2,(.agg #[.bool p,.slice a n_ c_,.slice b m d_]),_,vu5,by simp only [Act.put,xL4,xL5,xL6],hbu2,fun h => fu0 (mark_of (by decide) h),fun h => fu1 (mark_of (by decide) h),fun h => fu2 (mark_of (by decide) h),fun _ => rfl,fun _ => h4,fun h => fu5 (mark_of (by decide) h)⟩
     ·have eu1 := fu1 (dep_of 1 hru rfl (by kernel_rfl))
      replace eu1 := eu1.symm
      subst eu1
      have h4 := fu4 (dep_of 4 hru rfl (by kernel_rfl))
      refine wpOp_shut (by rfl) (fun K hK => ?_)
      simp only [Act.put,xL4,xL5,xL6]
      have FR := FR.below hbu
      go_simp
      refine (plink_zero _ _ (N (t + 2)) L (restQ N Q t) (-(R t)) _ FR.1 h4 (fun i hi => HC.out.szr t i hlt hi) (by omega) (by omega) hz0).mono ?_
      rintro eu wx ⟨rfl,bu⟩
      go_wp2_with fail
      have hbu2 := hbu.trans (bu.mono hbu.size)
      exact hK.out _ _ ⟨vu0,(.slice ar (N (t + 2)) cr),vu2,vu3,vu4,(.agg #[.slice none 0 0,.bool false,.slice none 0 0,.slice none 0 0]),by simp only [Act.put,xL4,xL5,xL6],hbu2,fun h => fu0 (mark_of (by decide) h),fun _ => rfl,fun h => fu2 (mark_of (by decide) h),fun h => fu3 (mark_of (by decide) h),fun h => (fu4 (mark_of (by decide) h)).below bu,fun _ => rfl⟩
    rintro au Wu4 ⟨vu0,vu1,vu2,vu3,vu4,vu5,rfl,hbu,fu0,fu1,fu2,fu3,fu4,fu5⟩
    have eu0 := (fu0 rfl).symm
    subst eu0
    have eu1 := (fu1 rfl).symm
    subst eu1
    have eu2 := (fu2 rfl).symm
    subst eu2
    have eu3 := (fu3 rfl).symm
    subst eu3
    have h4 := fu4 rfl
    have eu5 := (fu5 rfl).symm
    subst eu5
    clear fu0 fu1 fu2 fu3 fu4 fu5
    have hlVA : R1 < w6.heap.size := VA.lt
    have hlVB : R1 + 1 < w6.heap.size := VB.lt
    replace KA := KA.below hbu
    replace KB := KB.below hbu
    replace CO := CO.below hbu
    replace ht := ht.below hbu
    replace FR := FR.below hbu
    replace VA := VA.below hbu
    replace VB := VB.below hbu
    replace BB := BB.trans (hbu.mono BB.size)
    clear hbu
    simp only [Act.put,xL4,xL5,xL6]
    refine xR [6] (h := ?_)
    refine AllReadyH.cons (by rfl) (fun K hK => ?_) AllReadyH.nil
    clear FR h4
    have hKp := VA.keepJ (.slice ay2 (N (t + 1)) cy2) (.bool p2) (.slice a2 n2 c2) (.slice b2 m2 d2_)
    have hGr := grown_set4 Wu4 (R1) (.slice ay2 (N (t + 1)) cy2) (.bool p2) (.slice a2 n2 c2) (.slice b2 m2 d2_)
    have VA_n := VA.same (.slice ay2 (N (t + 1)) cy2) (.bool p2) (.slice a2 n2 c2) (.slice b2 m2 d2_)
    have VB_n := VB.other4 (R := R1) (by omega) (.slice ay2 (N (t + 1)) cy2) (.bool p2) (.slice a2 n2 c2) (.slice b2 m2 d2_)
    have KA_n := KA.store (.inl rfl) hGr hKp
    have KB_n := KB.store (.inl rfl) hGr hKp
    have CO_n := CO.store (.inl rfl) hGr hKp
    have ht_n := ht.keep hKp
    have BB_n := below_store4 (R := R1) BB (by omega) (.slice ay2 (N (t + 1)) cy2) (.bool p2) (.slice a2 n2 c2) (.slice b2 m2 d2_)
    obtain ⟨⟨x1,x2,x3,x4,x5,x6⟩,x7,x8⟩ := id VA
    go_simp
    clear x1 x2 x3 x4 x5 x6 x7 x8
    clear hKp hGr VA VB KA KB CO ht BB
    generalize (((Wu4.setCell ⟨R1,0,none⟩ (.slice ay2 (N (t + 1)) cy2)).setCell ⟨R1,1,none⟩ (.bool p2)).setCell ⟨R1,2,none⟩ (.slice a2 n2 c2)).setCell ⟨R1,3,none⟩ (.slice b2 m2 d2_) = W5 at *
    have VA := VA_n
    have VB := VB_n
    have KA := KA_n
    have KB := KB_n
    have CO := CO_n
    have ht := ht_n
    have BB := BB_n
    clear VA_n VB_n KA_n KB_n CO_n ht_n BB_n
    refine hK.out _ _ trivial (fun _ => ?_)
    clear hK K
    simp only [Act.put,xL4,xL5,xL6]
    refine xR [7] (h := ?_)
    refine AllReadyH.cons (by rfl) (fun K hK => ?_) AllReadyH.nil
    have hKp := VB.keepJ (.slice none 0 0) (.bool false) (.slice none 0 0) (.slice none 0 0)
    have hGr := grown_set4 W5 (R1 + 1) (.slice none 0 0) (.bool false) (.slice none 0 0) (.slice none 0 0)
    have VB_n := VB.same (.slice none 0 0) (.bool false) (.slice none 0 0) (.slice none 0 0)
    have VA_n := VA.other4 (R := R1 + 1) (by omega) (.slice none 0 0) (.bool false) (.slice none 0 0) (.slice none 0 0)
    have KA_n := KA.store (.inr rfl) hGr hKp
    have KB_n := KB.store (.inr rfl) hGr hKp
    have CO_n := CO.store (.inr rfl) hGr hKp
    have ht_n := ht.keep hKp
    have BB_n := below_store4 (R := R1 + 1) BB (by omega) (.slice none 0 0) (.bool false) (.slice none 0 0) (.slice none 0 0)
    obtain ⟨⟨x1,x2,x3,x4,x5,x6⟩,x7,x8⟩ := id VB
    go_simp
    clear x1 x2 x3 x4 x5 x6 x7 x8
    clear hKp hGr VA VB KA KB CO ht BB
    generalize (((W5.setCell ⟨R1 + 1,0,none⟩ (.slice none 0 0)).setCell ⟨R1 + 1,1,none⟩ (.bool false)).setCell ⟨R1 + 1,2,none⟩ (.slice none 0 0)).setCell ⟨R1 + 1,3,none⟩ (.slice none 0 0) = W6 at *
    have VA := VA_n
    have VB := VB_n
    have KA := KA_n
    have KB := KB_n
    have CO := CO_n
    have ht := ht_n
    have BB := BB_n
    clear VA_n VB_n KA_n KB_n CO_n ht_n BB_n
    refine hK.out _ _ trivial (fun _ => ?_)
    clear hK K
    simp only [Act.put,xL4,xL5,xL6]
    refine wpAnyH_done (by kernel_rfl) ?_ _
    go_wp2
    go_roundw
    case rel => exact ⟨t + 1,g5,cap5,_,_,_,_,_,_,_,_,hlt,rfl,VA,KB,.inr ⟨by omega,VB⟩,CO,ht,BB⟩
    case measure => simp only [lenC]; omega
  ·obtain ⟨⟨x1,x2,x3,x4,x5,x6⟩,x7,x8⟩ := id VB
   go_wp2
   go_ret
   refine ⟨_,rfl,?_,BB⟩
   have hr := CO.row (by omega)
   rw [show t + 1 = T from hEnd] at hr
   rw [show t + 1 = T from hEnd]
   exact hr

end Go.Proofs.YtieeneaebjihlaaGreatDoor

namespace Go.Proofs.YtieeneaebjihlaaGreatDoor
set_option linter.unusedVariables false

/-- Two links, one behind the other. -/
structure Two where
 na : Nat
 qa : Nat → Rat
 ra : Rat
 nb : Nat
 qb : Nat → Rat
 rb : Rat
def Two.rest (s : Two) : Nat → Rat := divR s.qb (s.nb - 1) (s.na - (s.nb - 1)) s.qa
def Two.len (s : Two) : Nat := if s.nb = 0 then 0 else trimN s.rest (min s.na (s.nb - 1))
def Two.next (s : Two) : Two := ⟨s.nb,s.qb,s.rb,s.len,fun i => s.rest i * (s.rest (s.len - 1))⁻¹,s.rest (s.len - 1) * -(s.ra)⟩
def dQ (q : Nat → Rat) (i : Nat) : Rat := q (i + 1) * (((i + 1 : Nat) : Int) : Rat)
def Two.start (n : Nat) (q : Nat → Rat) : Two :=
 ⟨trimN q n,fun i => q i * (q (trimN q n - 1))⁻¹,q (trimN q n - 1),trimN (dQ q) (n - 1),fun i => dQ q i * (dQ q (trimN (dQ q) (n - 1) - 1))⁻¹,dQ q (trimN (dQ q) (n - 1) - 1)⟩
def chs (n : Nat) (q : Nat → Rat) : Nat → Two
 | 0 => Two.start n q
 | t + 1 => (chs n q t).next
def cN (n : Nat) (q : Nat → Rat) (t : Nat) : Nat := (chs n q t).na
def cQ (n : Nat) (q : Nat → Rat) (t : Nat) : Nat → Rat := (chs n q t).qa
def cR (n : Nat) (q : Nat → Rat) (t : Nat) : Rat := (chs n q t).ra
theorem cN_next (n : Nat) (q : Nat → Rat) (t : Nat) : cN n q (t + 1) = (chs n q t).nb := rfl
theorem cN_two (n : Nat) (q : Nat → Rat) (t : Nat) (h : 0 < cN n q (t + 1)) : cN n q (t + 2) = trimN (restQ (cN n q) (cQ n q) t) (min (cN n q t) (cN n q (t + 1) - 1)) := by
 show (chs n q t).len = _
 unfold Two.len
 rw [if_neg (by rw [← cN_next]; omega)]
 rfl
theorem cQ_two (n : Nat) (q : Nat → Rat) (t i : Nat) : cQ n q (t + 2) i = restQ (cN n q) (cQ n q) t i * (restQ (cN n q) (cQ n q) t (cN n q (t + 2) - 1))⁻¹ := rfl
theorem cR_two (n : Nat) (q : Nat → Rat) (t : Nat) : cR n q (t + 2) = restQ (cN n q) (cQ n q) t (cN n q (t + 2) - 1) * -(cR n q t) := rfl
theorem trim_len (f : Nat → Rat) : ∀ (n m : Nat),m ≤ n → (∀ i,m ≤ i → i < n → f i = 0) → (0 < m → f (m - 1) ≠ 0) → trimN f n = m
 | 0,m,h,_,_ => by
  obtain rfl : m = 0 := by omega
  rfl
 | n + 1,m,h,hz,ht => by
  show (if f n = 0 then trimN f n else n + 1) = m
  by_cases e : m = n + 1
  ·subst e
   have h9 := ht (by omega)
   rw [Nat.add_sub_cancel] at h9
   rw [if_neg h9]
  ·rw [if_pos (hz n (by omega) (by omega))]
   exact trim_len f n m (by omega) (fun i h1 h2 => hz i h1 (by omega)) ht
/-- The slope is shorter by one. -/
theorem dQ_len (n : Nat) (q : Nat → Rat) : trimN (dQ q) (n - 1) = trimN q n - 1 := by
 rcases Nat.eq_zero_or_pos (trimN q n) with h | h
 ·rcases Nat.eq_zero_or_pos (trimN (dQ q) (n - 1)) with e | e
  ·omega
  ·have ht := trimN_top _ _ e
   have hl := trimN_le (dQ q) (n - 1)
   have hz := trimN_zero q n (trimN (dQ q) (n - 1) - 1 + 1) (by omega) (by omega)
   unfold dQ at ht
   unfold dQ at hz
   rw [hz,Rat.zero_mul] at ht
   exact absurd rfl ht
 ·have hn := trimN_le q n
  have htop := trimN_top q n h
  refine trim_len (dQ q) (n - 1) (trimN q n - 1) (by omega) (fun i h1 h2 => ?_) (fun h2 => ?_)
  ·show q (i + 1) * _ = 0
   rw [trimN_zero q n (i + 1) (by omega) (by omega),Rat.zero_mul]
  ·show q (trimN q n - 1 - 1 + 1) * (((trimN q n - 1 - 1 + 1 : Nat) : Int) : Rat) ≠ 0
   rw [show trimN q n - 1 - 1 + 1 = trimN q n - 1 by omega]
   intro e
   rcases Rat.mul_eq_zero.1 e with e | e
   ·exact htop e
   ·have : ((trimN q n - 1 : Nat) : Int) = 0 := by exact_mod_cast e
    omega
def vz : Nat → Nat
 | 0 => 1484
 | 1 => 614
 | 2 => 254
 | 3 => 104
 | 4 => 44
 | _ => 14
theorem vz_two : ∀ la,la < 7 → ∀ lb,lb < la → 0 < lb → vz (la - 1) ≤ vz lb ∧ vz la + (la - (lb - 1)) * (vz (la - 1) + 1) ≤ vz (lb - 1) := by decide
theorem vz_le : ∀ x,x < 7 → vz x ≤ 1484 ∧ 14 ≤ vz x ∧ (0 < x → vz x ≤ 614) := by decide
theorem IForm.nil' {q : Nat → Rat} {h : Nat} (hh : 1 ≤ h) : IForm 0 q h := ⟨1,fun _ => 0,by decide,Nat.le_trans nlw_one hh,fun i hi => by omega⟩
/-- What stands at each place of the chain. -/
structure ChSt (s : Two) : Prop where
 lt : s.nb < s.na ∨ (s.na = 0 ∧ s.nb = 0)
 six : s.na ≤ 6
 fa : IForm s.na s.qa (vz s.na)
 fb : IForm s.nb s.qb (vz (s.na - 1))
 ta : 0 < s.na → s.qa (s.na - 1) = 1
 tb : 0 < s.nb → s.qb (s.nb - 1) = 1
 za : 0 < s.na → s.ra ≠ 0
 zb : 0 < s.nb → s.rb ≠ 0
theorem Two.len_top (s : Two) (h : 0 < s.len) : s.rest (s.len - 1) ≠ 0 ∧ 0 < s.nb ∧ s.len ≤ s.na ∧ s.len + 1 ≤ s.nb := by
 unfold Two.len at h ⊢
 by_cases e : s.nb = 0
 ·rw [if_pos e] at h; omega
 ·rw [if_neg e] at h ⊢
  have := trimN_le s.rest (min s.na (s.nb - 1))
  exact ⟨trimN_top _ _ h,by omega,by omega,by omega⟩
theorem ChSt.next {s : Two} (h : ChSt s) : ChSt s.next := by
 have hsix := h.six
 have hlen : s.len < s.nb ∨ (s.nb = 0 ∧ s.len = 0) := by
  rcases Nat.eq_zero_or_pos s.nb with e | e
  ·exact Or.inr ⟨e,by unfold Two.len; rw [if_pos e]⟩
  ·rcases Nat.eq_zero_or_pos s.len with e2 | e2
   ·exact Or.inl (by omega)
   ·exact Or.inl (by have := (s.len_top e2).2.2.2; omega)
 have hba : s.nb ≤ s.na := by rcases h.lt with e | e <;> omega
 refine ⟨hlen,by show s.nb ≤ 6; omega,?_,?_,h.tb,fun e => ?_,h.zb,fun e => ?_⟩
 ·show IForm s.nb s.qb (vz s.nb)
  rcases Nat.eq_zero_or_pos s.nb with e | e
  ·rw [e]; exact IForm.nil' (by decide)
  ·exact h.fb.le (vz_two s.na (by omega) s.nb (by rcases h.lt with g | g <;> omega) e).1
 ·show IForm s.len (fun i => s.rest i * (s.rest (s.len - 1))⁻¹) (vz (s.nb - 1))
  rcases Nat.eq_zero_or_pos s.len with e | e
  ·rw [e]; exact IForm.nil' (by have := (vz_le (s.nb - 1) (by omega)).2.1; omega)
  ·obtain ⟨h1,h2,h3,h4⟩ := s.len_top e
   have hv := vz_two s.na (by omega) s.nb (by rcases h.lt with g | g <;> omega) h2
   have f := (form_div h.fa h.fb h2 (by rw [h.tb h2]; decide)).le hv.2
   exact (f.less h3).monic (by omega) h1
 ·exact Rat.mul_inv_cancel _ (s.len_top e).1
 ·show s.rest (s.len - 1) * -(s.ra) ≠ 0
  obtain ⟨h1,h2,h3,h4⟩ := s.len_top e
  intro g
  rcases Rat.mul_eq_zero.1 g with g | g
  ·exact h1 g
  ·exact h.za (by omega) (by grind)
theorem ChSt.start {n : Nat} {q : Nat → Rat} (hn : n ≤ 6) (hq : ∀ i,i < n → qsz (q i) ≤ 2) : ChSt (Two.start n q) := by
 have hl := dQ_len n q
 have hle := trimN_le q n
 have ht := trimN_top q n
 have ht2 := trimN_top (dQ q) (n - 1)
 have fq : IForm n q 13 := (IForm.of_sz 2 q n hq).le (by omega)
 have fd : IForm (n - 1) (dQ q) 14 := by
  obtain ⟨D,z,h1,h2,h3⟩ := fq
  refine ⟨D,fun i => z (i + 1) * ((i + 1 : Nat) : Int),h1,by omega,fun i hi => ⟨?_,nlz_mul (h3 (i + 1) (by omega)).2 (show nl W32 ((i + 1 : Nat) : Int).natAbs ≤ 1 from nl_le W32 _ 1 (by decide) (by rw [Int.natAbs_natCast]; unfold W32; omega)) (by omega)⟩⟩
  show q (i + 1) * (((i + 1 : Nat) : Int) : Rat) * (D : Rat) = _
  rw [Rat.intCast_mul,← (h3 (i + 1) (by omega)).1]
  grind
 refine ⟨?_,by show trimN q n ≤ 6; omega,?_,?_,fun h => Rat.mul_inv_cancel _ (ht h),fun h => Rat.mul_inv_cancel _ (ht2 h),ht,ht2⟩
 ·show trimN (dQ q) (n - 1) < trimN q n ∨ (trimN q n = 0 ∧ trimN (dQ q) (n - 1) = 0)
  omega
 ·show IForm (trimN q n) (fun i => q i * (q (trimN q n - 1))⁻¹) (vz (trimN q n))
  have hv := vz_le (trimN q n) (by omega)
  rcases Nat.eq_zero_or_pos (trimN q n) with e | e
  ·rw [e]; exact IForm.nil' (by decide)
  ·exact ((fq.less hle).monic (by omega) (ht e)).le (by omega)
 ·show IForm (trimN (dQ q) (n - 1)) (fun i => dQ q i * (dQ q (trimN (dQ q) (n - 1) - 1))⁻¹) (vz (trimN q n - 1))
  have hv := vz_le (trimN q n - 1) (by omega)
  rcases Nat.eq_zero_or_pos (trimN (dQ q) (n - 1)) with e | e
  ·rw [e]; exact IForm.nil' (by omega)
  ·exact ((fd.less (trimN_le _ _)).monic (by omega) (ht2 e)).le (by omega)
theorem ChSt.all {n : Nat} {q : Nat → Rat} (hn : n ≤ 6) (hq : ∀ i,i < n → qsz (q i) ≤ 2) : ∀ t,ChSt (chs n q t)
 | 0 => ChSt.start hn hq
 | t + 1 => (ChSt.all hn hq t).next
theorem first_zero (f : Nat → Nat) : ∀ k,(∀ t,t < k → 0 < f t) ∨ ∃ T,T < k ∧ (∀ t,t < T → 0 < f t) ∧ f T = 0
 | 0 => Or.inl (fun t h => by omega)
 | k + 1 => by
  rcases first_zero f k with h | ⟨T,h1,h2,h3⟩
  ·rcases Nat.eq_zero_or_pos (f k) with e | e
   ·exact Or.inr ⟨k,by omega,h,e⟩
   ·refine Or.inl (fun t ht => ?_)
    by_cases g : t = k
    ·rw [g]; exact e
    ·exact h t (by omega)
  ·exact Or.inr ⟨T,by omega,h2,h3⟩
theorem stepR_scale (b a : Nat → Rat) (below k : Nat) (s r : Rat) (hs : s ≠ 0) (hb : b below ≠ 0) (j : Nat) : stepR (fun j => b j * s) below k (fun j => a j * r) j = stepR b below k a j * r := by
 unfold stepR
 by_cases h : k ≤ j ∧ j < k + below
 ·rw [if_pos h,if_pos h]
  show a j * r - a (k + below) * r / (b below * s) * (b (j - k) * s) = (a j - a (k + below) / b below * b (j - k)) * r
  have e : a (k + below) * r / (b below * s) * s = a (k + below) / b below * r := by
   have h1 : a (k + below) * r / (b below * s) * (b below * s) = a (k + below) * r := Rat.div_mul_cancel (fun e => by rcases Rat.mul_eq_zero.1 e with g | g; exact hb g; exact hs g)
   have h2 : a (k + below) / b below * b below = a (k + below) := Rat.div_mul_cancel hb
   generalize a (k + below) * r / (b below * s) = x at *
   generalize a (k + below) / b below = y at *
   have h3 : (x * s - y * r) * b below = 0 := by rw [← h2] at h1; grind
   rcases Rat.mul_eq_zero.1 h3 with g | g
   ·grind
   ·exact absurd g hb
  generalize a (k + below) * r / (b below * s) = x at *
  generalize a (k + below) / b below = y at *
  grind
 ·rw [if_neg h,if_neg h]
/-- The rest of multiples. -/
theorem divR_scale (b : Nat → Rat) (below : Nat) (s r : Rat) (hs : s ≠ 0) (hb : b below ≠ 0) : ∀ (k : Nat) (a : Nat → Rat) (j : Nat),divR (fun j => b j * s) below k (fun j => a j * r) j = divR b below k a j * r
 | 0,_,_ => rfl
 | k + 1,a,j => by
  show divR (fun j => b j * s) below k (stepR (fun j => b j * s) below k (fun j => a j * r)) j = divR b below k (stepR b below k a) j * r
  have e : stepR (fun j => b j * s) below k (fun j => a j * r) = fun j => stepR b below k a j * r := funext (stepR_scale b a below k s r hs hb)
  rw [e,divR_scale b below s r hs hb k]
theorem IForm.scale {n h S : Nat} {q : Nat → Rat} {r : Rat} (f : IForm n q h) (hr : qsz r ≤ S) : IForm n (fun i => q i * r) (h + S) := by
 obtain ⟨D,z,h1,h2,h3⟩ := f
 have hq : r * ((r.den : Int) : Rat) = (r.num : Rat) := by
  have h := mkRat_mul_den r.num r.den (Nat.pos_of_ne_zero r.den_nz)
  rw [Rat.mkRat_self] at h
  rw [Rat.intCast_natCast]; exact h
 refine ⟨D * (r.den : Int),fun i => z i * r.num,Int.mul_ne_zero h1 (by have := r.den_nz; omega),nlz_mul h2 (by rw [Int.natAbs_natCast]; exact Nat.le_trans (qsz_den r) hr) (Nat.le_refl _),fun i hi => ⟨?_,nlz_mul (h3 i hi).2 (Nat.le_trans (qsz_num r) hr) (Nat.le_refl _)⟩⟩
 show q i * r * _ = _
 rw [Rat.intCast_mul,Rat.intCast_mul,← (h3 i hi).1,← hq]
 grind
theorem trimN_scale (q : Nat → Rat) (s : Rat) (hs : s ≠ 0) : ∀ n,trimN (fun i => q i * s) n = trimN q n
 | 0 => rfl
 | n + 1 => by
  show (if q n * s = 0 then trimN (fun i => q i * s) n else n + 1) = (if q n = 0 then trimN q n else n + 1)
  by_cases h : q n = 0
  ·rw [if_pos h,if_pos (by rw [h,Rat.zero_mul]),trimN_scale q s hs n]
  ·rw [if_neg h,if_neg (fun e => by rcases Rat.mul_eq_zero.1 e with g | g; exact h g; exact hs g)]

theorem bmul {a b x y : Rat} (h1 : -a ≤ x) (h2 : x ≤ a) (h3 : -b ≤ y) (h4 : y ≤ b) : -(a * b) ≤ x * y ∧ x * y ≤ a * b := by
 have p1 := Rat.mul_nonneg (show 0 ≤ a - x by grind) (show 0 ≤ b + y by grind)
 have p2 := Rat.mul_nonneg (show 0 ≤ a + x by grind) (show 0 ≤ b - y by grind)
 have p3 := Rat.mul_nonneg (show 0 ≤ a - x by grind) (show 0 ≤ b - y by grind)
 have p4 := Rat.mul_nonneg (show 0 ≤ a + x by grind) (show 0 ≤ b + y by grind)
 constructor <;> grind
/-- Between the bounds: bounded, its slope too, and how it changes. -/
structure Nice (M : Rat) (f f' : Rat → Rat) : Prop where
 bd : ∃ B,0 ≤ B ∧ ∀ x,-M ≤ x → x ≤ M → -B ≤ f x ∧ f x ≤ B
 bs : ∃ B,0 ≤ B ∧ ∀ x,-M ≤ x → x ≤ M → -B ≤ f' x ∧ f' x ≤ B
 lip : ∃ K,0 ≤ K ∧ ∀ x y,-M ≤ x → x ≤ y → y ≤ M → -(K * (y - x)) ≤ f y - f x ∧ f y - f x ≤ K * (y - x)
 tay : ∃ K,0 ≤ K ∧ ∀ x y,-M ≤ x → x ≤ y → y ≤ M → -(K * ((y - x) * (y - x))) ≤ f y - f x - f' x * (y - x) ∧ f y - f x - f' x * (y - x) ≤ K * ((y - x) * (y - x))
theorem Nice.const {M : Rat} (c : Rat) : Nice M (fun _ => c) (fun _ => 0) := by
 have hc : ∃ B,0 ≤ B ∧ -B ≤ c ∧ c ≤ B := by
  by_cases h : 0 ≤ c
  ·exact ⟨c,h,by grind,by grind⟩
  ·exact ⟨-c,by grind,by grind,by grind⟩
 obtain ⟨B,h1,h2,h3⟩ := hc
 exact ⟨⟨B,h1,fun _ _ _ => ⟨h2,h3⟩⟩,⟨0,by grind,fun _ _ _ => ⟨by grind,by grind⟩⟩,⟨0,by grind,fun _ _ _ _ _ => ⟨by grind,by grind⟩⟩,⟨0,by grind,fun _ _ _ _ _ => ⟨by grind,by grind⟩⟩⟩
theorem Nice.var {M : Rat} (hM : 0 ≤ M) : Nice M (fun x => x) (fun _ => 1) :=
 ⟨⟨M,hM,fun _ h1 h2 => ⟨h1,h2⟩⟩,⟨1,by grind,fun _ _ _ => ⟨by grind,by grind⟩⟩,⟨1,by grind,fun _ _ _ _ _ => ⟨by grind,by grind⟩⟩,⟨0,by grind,fun _ _ _ _ _ => ⟨by grind,by grind⟩⟩⟩
theorem Nice.add {M : Rat} {f f' g g' : Rat → Rat} (hf : Nice M f f') (hg : Nice M g g') : Nice M (fun x => f x + g x) (fun x => f' x + g' x) := by
 obtain ⟨⟨B1,b1,c1⟩,⟨B2,b2,c2⟩,⟨K1,k1,l1⟩,⟨L1,m1,t1⟩⟩ := hf
 obtain ⟨⟨B3,b3,c3⟩,⟨B4,b4,c4⟩,⟨K2,k2,l2⟩,⟨L2,m2,t2⟩⟩ := hg
 refine ⟨⟨B1 + B3,by grind,fun x h h' => ?_⟩,⟨B2 + B4,by grind,fun x h h' => ?_⟩,⟨K1 + K2,by grind,fun x y h1 h2 h3 => ?_⟩,⟨L1 + L2,by grind,fun x y h1 h2 h3 => ?_⟩⟩
 ·have a := c1 x h h'; have b := c3 x h h'; constructor <;> grind
 ·have a := c2 x h h'; have b := c4 x h h'; constructor <;> grind
 ·have a := l1 x y h1 h2 h3; have b := l2 x y h1 h2 h3; constructor <;> grind
 ·have a := t1 x y h1 h2 h3; have b := t2 x y h1 h2 h3; constructor <;> grind
theorem Nice.mul {M : Rat} {f f' g g' : Rat → Rat} (hf : Nice M f f') (hg : Nice M g g') : Nice M (fun x => f x * g x) (fun x => f' x * g x + f x * g' x) := by
 obtain ⟨⟨B1,b1,c1⟩,⟨B2,b2,c2⟩,⟨K1,k1,l1⟩,⟨L1,m1,t1⟩⟩ := hf
 obtain ⟨⟨B3,b3,c3⟩,⟨B4,b4,c4⟩,⟨K2,k2,l2⟩,⟨L2,m2,t2⟩⟩ := hg
 have nn : ∀ {a b : Rat},0 ≤ a → 0 ≤ b → 0 ≤ a * b := fun h h' => Rat.mul_nonneg h h'
 refine ⟨⟨B1 * B3,nn b1 b3,fun x h h' => bmul (c1 x h h').1 (c1 x h h').2 (c3 x h h').1 (c3 x h h').2⟩,⟨B2 * B3 + B1 * B4,by have := nn b2 b3; have := nn b1 b4; grind,fun x h h' => ?_⟩,⟨B1 * K2 + K1 * B3,by have := nn b1 k2; have := nn k1 b3; grind,fun x y h1 h2 h3 => ?_⟩,⟨L1 * B3 + B2 * K2 + B1 * L2,by have := nn m1 b3; have := nn b2 k2; have := nn b1 m2; grind,fun x y h1 h2 h3 => ?_⟩⟩
 ·have a := bmul (c2 x h h').1 (c2 x h h').2 (c3 x h h').1 (c3 x h h').2
  have b := bmul (c1 x h h').1 (c1 x h h').2 (c4 x h h').1 (c4 x h h').2
  constructor <;> grind
 ·have hy : -M ≤ y := by grind
  have hx : x ≤ M := by grind
  have a := bmul (c1 y hy h3).1 (c1 y hy h3).2 (l2 x y h1 h2 h3).1 (l2 x y h1 h2 h3).2
  have b := bmul (l1 x y h1 h2 h3).1 (l1 x y h1 h2 h3).2 (c3 x h1 hx).1 (c3 x h1 hx).2
  generalize f x = fx at *
  generalize f y = fy at *
  generalize g x = gx at *
  generalize g y = gy at *
  constructor <;> grind
 ·have hy : -M ≤ y := by grind
  have hx : x ≤ M := by grind
  have a := bmul (t1 x y h1 h2 h3).1 (t1 x y h1 h2 h3).2 (c3 y hy h3).1 (c3 y hy h3).2
  have b0 := bmul (c2 x h1 hx).1 (c2 x h1 hx).2 (l2 x y h1 h2 h3).1 (l2 x y h1 h2 h3).2
  have hd : -(y - x) ≤ y - x := by grind
  have b := bmul b0.1 b0.2 hd (by grind : y - x ≤ y - x)
  have c := bmul (c1 x h1 hx).1 (c1 x h1 hx).2 (t2 x y h1 h2 h3).1 (t2 x y h1 h2 h3).2
  generalize f x = fx at *
  generalize f y = fy at *
  generalize g x = gx at *
  generalize g y = gy at *
  generalize f' x = fp at *
  generalize g' x = gp at *
  generalize y - x = d at *
  constructor <;> grind
theorem Nice.congr {M : Rat} {f f' g g' : Rat → Rat} (h : Nice M f f') (e : ∀ x,f x = g x) (e' : ∀ x,f' x = g' x) : Nice M g g' := by
 have h1 : f = g := funext e
 have h2 : f' = g' := funext e'
 rw [← h1,← h2]; exact h
theorem Nice.pow {M : Rat} (hM : 0 ≤ M) : ∀ n : Nat,Nice M (fun x => x ^ n) (fun x => ((n : Int) : Rat) * x ^ (n - 1))
 | 0 => (Nice.const 1).congr (fun x => (Rat.pow_zero x).symm) (fun x => by rw [show (((0 : Nat) : Int) : Rat) = 0 from rfl,Rat.zero_mul])
 | 1 => (Nice.var hM).congr (fun x => by rw [Rat.pow_succ,Rat.pow_zero,Rat.one_mul]) (fun x => by
   show (1 : Rat) = (((1 : Nat) : Int) : Rat) * x ^ (1 - 1)
   rw [show (((1 : Nat) : Int) : Rat) = 1 from rfl,Nat.sub_self,Rat.pow_zero,Rat.one_mul])
 | n + 2 => ((Nice.pow hM (n + 1)).mul (Nice.var hM)).congr (fun x => (Rat.pow_succ x (n + 1)).symm) (fun x => by
   show ((((n + 1 : Nat) : Int) : Rat) * x ^ n) * x + x ^ (n + 1) * 1 = (((n + 2 : Nat) : Int) : Rat) * x ^ (n + 1)
   rw [Rat.mul_assoc,← Rat.pow_succ,Rat.mul_one,show ((n + 2 : Nat) : Int) = ((n + 1 : Nat) : Int) + 1 by omega,Rat.intCast_add,Rat.add_mul]
   congr 1
   exact (Rat.one_mul _).symm)
/-- The slope's value. -/
def dev (q : Nat → Rat) (x : Rat) : Nat → Rat
 | 0 => 0
 | n + 1 => dev q x n + q n * (((n : Int) : Rat) * x ^ (n - 1))
theorem dev_ev (q : Nat → Rat) (x : Rat) : ∀ n,dev q x (n + 1) = evN (dQ q) x n
 | 0 => by
  show 0 + q 0 * ((((0 : Nat) : Int) : Rat) * x ^ (0 - 1)) = 0
  rw [show (((0 : Nat) : Int) : Rat) = 0 from rfl,Rat.zero_mul,Rat.mul_zero,Rat.add_zero]
 | n + 1 => by
  show dev q x (n + 1) + q (n + 1) * ((((n + 1 : Nat) : Int) : Rat) * x ^ n) = evN (dQ q) x n + dQ q n * x ^ n
  rw [dev_ev q x n]
  unfold dQ
  rw [Rat.mul_assoc]
theorem Nice.poly {M : Rat} (hM : 0 ≤ M) (q : Nat → Rat) : ∀ n,Nice M (fun x => evN q x n) (fun x => dev q x n)
 | 0 => Nice.const 0
 | n + 1 => ((Nice.poly hM q n).add ((Nice.const (q n)).mul (Nice.pow hM n))).congr (fun _ => rfl) (fun x => by
   show dev q x n + (0 * x ^ n + q n * (((n : Int) : Rat) * x ^ (n - 1))) = dev q x n + q n * (((n : Int) : Rat) * x ^ (n - 1))
   rw [Rat.zero_mul,Rat.zero_add])

theorem cmp_pos {x : Rat} (h : 0 < x) : cmpQ x 0 = 1 := by unfold cmpQ; rw [if_neg (by grind),if_pos h]
theorem cmp_neg {x : Rat} (h : x < 0) : cmpQ x 0 = -1 := by unfold cmpQ; rw [if_pos h]
theorem cmp_zero {x : Rat} (h : x = 0) : cmpQ x 0 = 0 := by unfold cmpQ; rw [if_neg (by grind),if_neg (by grind)]
theorem sign_cases (x : Rat) : (0 < x ∧ cmpQ x 0 = 1) ∨ (x = 0 ∧ cmpQ x 0 = 0) ∨ (x < 0 ∧ cmpQ x 0 = -1) := by
 by_cases h : 0 < x
 ·exact .inl ⟨h,cmp_pos h⟩
 ·by_cases e : x = 0
  ·exact .inr (.inl ⟨e,cmp_zero e⟩)
  ·have : x < 0 := by grind
   exact .inr (.inr ⟨this,cmp_neg this⟩)
theorem sign_three (x : Rat) : cmpQ x 0 = 1 ∨ cmpQ x 0 = 0 ∨ cmpQ x 0 = -1 := by
 rcases sign_cases x with h | h | h
 ·exact .inl h.2
 ·exact .inr (.inl h.2)
 ·exact .inr (.inr h.2)
/-- What is far from 0 keeps its sign. -/
theorem far_keeps {a b ε δ : Rat} (h1 : -ε ≤ b - a) (h2 : b - a ≤ ε) (hε : ε < δ) (h0 : 0 ≤ ε) (h : δ ≤ a ∨ a ≤ -δ) : cmpQ a 0 = cmpQ b 0 ∧ cmpQ a 0 ≠ 0 := by
 rcases h with h | h
 ·rw [cmp_pos (show 0 < a by grind),cmp_pos (show 0 < b by grind)]; exact ⟨rfl,by decide⟩
 ·rw [cmp_neg (show a < 0 by grind),cmp_neg (show b < 0 by grind)]; exact ⟨rfl,by decide⟩
/-- What does not keep its sign, or is 0, is near 0. -/
theorem near_zero {a b ε : Rat} (h1 : -ε ≤ b - a) (h2 : b - a ≤ ε) (h0 : 0 ≤ ε) (h : ¬ (cmpQ a 0 = cmpQ b 0 ∧ cmpQ a 0 ≠ 0)) : -ε ≤ a ∧ a ≤ ε := by
 rcases sign_cases a with ⟨g,e⟩ | ⟨g,e⟩ | ⟨g,e⟩ <;> rcases sign_cases b with ⟨k,f⟩ | ⟨k,f⟩ | ⟨k,f⟩ <;> first | (exfalso; apply h; rw [e,f]; exact ⟨rfl,by decide⟩) | (constructor <;> grind)
theorem local_step {T : Nat} {p : Nat → Rat → Rat} {x y ε δ B : Rat} (hT : 2 ≤ T) (hlip : ∀ i,i < T → -ε ≤ p i y - p i x ∧ p i y - p i x ≤ ε)
  (hlow : ∀ i,i + 1 < T → (δ ≤ p i x ∨ p i x ≤ -δ) ∨ (δ ≤ p (i + 1) x ∨ p (i + 1) x ≤ -δ))
  (hrec : ∀ i,i + 2 < T → ∃ b,-B ≤ b ∧ b ≤ B ∧ p i x = b * p (i + 1) x - p (i + 2) x)
  (hlast : p (T - 1) x = p (T - 1) y ∧ p (T - 1) x ≠ 0) (h0 : 0 ≤ ε) (hε : ε < δ) (hB : B * ε < δ) :
  (Good (fun i => cmpQ (p i x) 0) (fun i => cmpQ (p i y) 0) 0 ∧ (tw (fun i => cmpQ (p i x) 0) T).1 = (tw (fun i => cmpQ (p i y) 0) T).1) ∨
  ((-ε ≤ p 0 x ∧ p 0 x ≤ ε) ∧ (δ ≤ p 1 x ∨ p 1 x ≤ -δ) ∧ Good (fun i => cmpQ (p i x) 0) (fun i => cmpQ (p i y) 0) 1 ∧ (tw (fun i => cmpQ (p i x) 0) T).1 + ch (cmpQ (p 0 y) 0) (cmpQ (p 1 y) 0) = (tw (fun i => cmpQ (p i y) 0) T).1 + ch (cmpQ (p 0 x) 0) (cmpQ (p 1 x) 0)) := by
 have t1 : ∀ i,cmpQ (p i x) 0 = 1 ∨ cmpQ (p i x) 0 = 0 ∨ cmpQ (p i x) 0 = -1 := fun i => sign_three _
 have t2 : ∀ i,cmpQ (p i y) 0 = 1 ∨ cmpQ (p i y) 0 = 0 ∨ cmpQ (p i y) 0 = -1 := fun i => sign_three _
 have keep : ∀ i,i < T → (δ ≤ p i x ∨ p i x ≤ -δ) → Good (fun i => cmpQ (p i x) 0) (fun i => cmpQ (p i y) 0) i := fun i hi h => far_keeps (hlip i hi).1 (hlip i hi).2 hε h0 h
 have near : ∀ i,i < T → ¬ Good (fun i => cmpQ (p i x) 0) (fun i => cmpQ (p i y) 0) i → -ε ≤ p i x ∧ p i x ≤ ε := fun i hi h => near_zero (hlip i hi).1 (hlip i hi).2 h0 h
 have hl : Good (fun i => cmpQ (p i x) 0) (fun i => cmpQ (p i y) 0) (T - 1) := by
  refine ⟨by show cmpQ (p (T - 1) x) 0 = cmpQ (p (T - 1) y) 0; rw [hlast.1],fun e => ?_⟩
  have e' : cmpQ (p (T - 1) x) 0 = 0 := e
  rcases sign_cases (p (T - 1) x) with ⟨g,k⟩ | ⟨g,k⟩ | ⟨g,k⟩
  ·rw [k] at e'; exact absurd e' (by decide)
  ·exact hlast.2 g
  ·rw [k] at e'; exact absurd e' (by decide)
 have mid : ∀ j,0 < j → j + 1 < T → Good (fun i => cmpQ (p i x) 0) (fun i => cmpQ (p i y) 0) j ∨ Bad (fun i => cmpQ (p i x) 0) (fun i => cmpQ (p i y) 0) j := by
  intro j hj hjT
  by_cases g : Good (fun i => cmpQ (p i x) 0) (fun i => cmpQ (p i y) 0) j
  ·exact .inl g
  right
  obtain ⟨k,rfl⟩ : ∃ k,j = k + 1 := ⟨j - 1,by omega⟩
  have n := near (k + 1) (by omega) g
  have f1 : δ ≤ p k x ∨ p k x ≤ -δ := by
   rcases hlow k (by omega) with h | h
   ·exact h
   ·rcases h with h | h <;> grind
  have f2 : δ ≤ p (k + 2) x ∨ p (k + 2) x ≤ -δ := by
   rcases hlow (k + 1) (by omega) with h | h
   ·rcases h with h | h <;> grind
   ·exact h
  refine ⟨by rw [Nat.add_sub_cancel]; exact keep k (by omega) f1,keep (k + 2) (by omega) f2,?_⟩
  show cmpQ (p (k + 2) x) 0 = -(cmpQ (p (k + 1 - 1) x) 0)
  rw [Nat.add_sub_cancel]
  obtain ⟨b,b1,b2,e⟩ := hrec k (by omega)
  have bb := bmul b1 b2 n.1 n.2
  generalize p k x = u at *
  generalize p (k + 2) x = v at *
  generalize b * p (k + 1) x = m at *
  rcases f1 with f1 | f1 <;> rcases f2 with f2 | f2
  ·exfalso; grind
  ·rw [cmp_neg (show v < 0 by grind),cmp_pos (show 0 < u by grind)]
  ·rw [cmp_pos (show 0 < v by grind),cmp_neg (show u < 0 by grind)]; rfl
  ·exfalso; grind
 by_cases g0 : Good (fun i => cmpQ (p i x) 0) (fun i => cmpQ (p i y) 0) 0
 ·exact .inl ⟨g0,turns_stay t1 t2 (by omega) hl g0 mid⟩
 ·right
  have n := near 0 (by omega) g0
  have f1 : δ ≤ p 1 x ∨ p 1 x ≤ -δ := by
   rcases hlow 0 (by omega) with h | h
   ·rcases h with h | h <;> grind
   ·exact h
  have g1 := keep 1 (by omega) f1
  exact ⟨n,f1,g1,turns_step t1 t2 (by omega) hl g1 (fun j a b => mid j (by omega) b)⟩

/-- How many of m numbers lie above x and not above y. -/
def rcnt (r : Nat → Rat) (x y : Rat) : Nat → Nat
 | 0 => 0
 | m + 1 => rcnt r x y m + (if x < r m ∧ r m ≤ y then 1 else 0)
theorem rcnt_none {r : Nat → Rat} {x y : Rat} : ∀ m,(∀ j,j < m → ¬ (x < r j ∧ r j ≤ y)) → rcnt r x y m = 0
 | 0,_ => rfl
 | m + 1,h => by
  show rcnt r x y m + (if x < r m ∧ r m ≤ y then 1 else 0) = 0
  rw [rcnt_none m (fun j hj => h j (by omega)),if_neg (h m (by omega))]
theorem rcnt_one {r : Nat → Rat} {x y : Rat} {k : Nat} (hk : x < r k ∧ r k ≤ y) : ∀ m,k < m → (∀ j,j < m → x < r j → r j ≤ y → j = k) → rcnt r x y m = 1
 | 0,h,_ => by omega
 | m + 1,h,hu => by
  show rcnt r x y m + (if x < r m ∧ r m ≤ y then 1 else 0) = 1
  by_cases e : k = m
  ·subst e
   rw [rcnt_none k (fun j hj g => by have := hu j (by omega) g.1 g.2; omega),if_pos hk]
  ·rw [rcnt_one hk m (by omega) (fun j hj => hu j (by omega)),if_neg (fun g => e (hu m (by omega) g.1 g.2).symm)]
theorem rcnt_add {r : Nat → Rat} {x y z : Rat} (h1 : x ≤ y) (h2 : y ≤ z) : ∀ m,rcnt r x y m + rcnt r y z m = rcnt r x z m
 | 0 => rfl
 | m + 1 => by
  have ih := rcnt_add (r := r) h1 h2 m
  show rcnt r x y m + (if x < r m ∧ r m ≤ y then 1 else 0) + (rcnt r y z m + (if y < r m ∧ r m ≤ z then 1 else 0)) = rcnt r x z m + (if x < r m ∧ r m ≤ z then 1 else 0)
  by_cases a : x < r m ∧ r m ≤ y
  ·rw [if_pos a,if_neg (by grind),if_pos (by grind)]; omega
  ·by_cases b : y < r m ∧ r m ≤ z
   ·rw [if_neg a,if_pos b,if_pos (by grind)]; omega
   ·rw [if_neg a,if_neg b,if_neg (by grind)]; omega
/-- The first of a chain and its slope, with all its roots. -/
structure Rooted (f : Rat → Rat) (m : Nat) (r : Nat → Rat) : Prop where
 root : ∀ j,j < m → f (r j) = 0
 apart : ∀ i j,i < m → j < m → r i = r j → i = j
 stay : ∀ x y,x ≤ y → (∀ j,j < m → ¬ (x ≤ r j ∧ r j ≤ y)) → cmpQ (f x) 0 = cmpQ (f y) 0
 all : ∀ x,f x = 0 → ∃ j,j < m ∧ x = r j
theorem ch_up {a b : Rat} (hb : 0 < b) : ch (cmpQ a 0) (cmpQ b 0) = if a < 0 then 1 else 0 := by
 rw [cmp_pos hb]
 rcases sign_cases a with ⟨g,e⟩ | ⟨g,e⟩ | ⟨g,e⟩ <;> rw [e]
 ·rw [if_neg (by grind)]; decide
 ·rw [if_neg (by grind)]; decide
 ·rw [if_pos g]; decide
theorem ch_down {a b : Rat} (hb : b < 0) : ch (cmpQ a 0) (cmpQ b 0) = if 0 < a then 1 else 0 := by
 rw [cmp_neg hb]
 rcases sign_cases a with ⟨g,e⟩ | ⟨g,e⟩ | ⟨g,e⟩ <;> rw [e]
 ·rw [if_pos g]; decide
 ·rw [if_neg (by grind)]; decide
 ·rw [if_neg (by grind)]; decide
/-- Where it rises all along a step: roots in it. -/
theorem count_up {f : Rat → Rat} {m : Nat} {r : Nat → Rat} (R : Rooted f m r) {x y : Rat} (hxy : x < y) (mono : ∀ u v,x ≤ u → u < v → v ≤ y → f u < f v) : rcnt r x y m + (if f y < 0 then 1 else 0) = (if f x < 0 then 1 else 0) := by
 have up := mono x y (by grind) hxy (by grind)
 by_cases hx : f x < 0
 ·rw [if_pos hx]
  by_cases hy : f y < 0
  ·rw [if_pos hy,rcnt_none m (fun j hj g => ?_)]
   have e := R.root j hj
   by_cases h : r j = y
   ·rw [h] at e; grind
   ·have := mono (r j) y (by grind) (by grind) (by grind)
    grind
  ·rw [if_neg hy]
   have hne : ¬ ∀ j,j < m → ¬ (x ≤ r j ∧ r j ≤ y) := fun h => by
    have e := R.stay x y (by grind) h
    rw [cmp_neg hx] at e
    rcases sign_cases (f y) with ⟨g,k⟩ | ⟨g,k⟩ | ⟨g,k⟩
    ·rw [k] at e; exact absurd e (by decide)
    ·rw [k] at e; exact absurd e (by decide)
    ·exact hy g
   obtain ⟨j,hj,h1,h2⟩ : ∃ j,j < m ∧ x ≤ r j ∧ r j ≤ y := Classical.byContradiction (fun h => hne (fun j hj g => h ⟨j,hj,g.1,g.2⟩))
   have h3 : x < r j := by
    have e := R.root j hj
    by_cases h : x = r j
    ·rw [← h] at e; grind
    ·grind
   rw [rcnt_one ⟨h3,h2⟩ m hj (fun i hi a b => ?_)]
   have e1 := R.root i hi
   have e2 := R.root j hj
   by_cases h : r i = r j
   ·exact R.apart i j hi hj h
   ·exfalso
    by_cases g : r i < r j
    ·have := mono (r i) (r j) (by grind) g h2; grind
    ·have := mono (r j) (r i) (by grind) (by grind) b; grind
 ·rw [if_neg hx,if_neg (by grind),rcnt_none m (fun j hj g => ?_)]
  have e := R.root j hj
  have := mono x (r j) (by grind) g.1 g.2
  grind
theorem Rooted.neg {f : Rat → Rat} {m : Nat} {r : Nat → Rat} (R : Rooted f m r) : Rooted (fun x => -(f x)) m r := by
 have hc : ∀ a : Rat,cmpQ (-a) 0 = -(cmpQ a 0) := fun a => by
  rcases sign_cases a with ⟨g,e⟩ | ⟨g,e⟩ | ⟨g,e⟩ <;> rw [e]
  ·rw [cmp_neg (by grind)]
  ·rw [cmp_zero (by grind)]; rfl
  ·rw [cmp_pos (by grind)]; rfl
 refine ⟨fun j hj => by rw [R.root j hj]; decide +kernel,R.apart,fun x y h g => ?_,fun x h => R.all x (by grind)⟩
 show cmpQ (-(f x)) 0 = cmpQ (-(f y)) 0
 rw [hc,hc,R.stay x y h g]
/-- Its slope being far from 0 at the step's start, it rises, or falls, all along. -/
theorem rises {f g : Rat → Rat} {x y ε δ h L : Rat} (hs : δ ≤ g x) (hg : ∀ u,x ≤ u → u ≤ y → -ε ≤ g u - g x) (ht : ∀ u v,x ≤ u → u ≤ v → v ≤ y → -(L * ((v - u) * (v - u))) ≤ f v - f u - g u * (v - u)) (hh : y - x ≤ h) (h0 : 0 ≤ L) (hL : L * h + ε < δ) : ∀ u v,x ≤ u → u < v → v ≤ y → f u < f v := by
 intro u v h1 h2 h3
 have a := hg u h1 (by grind)
 have b := ht u v h1 (by grind) h3
 have c : L * (v - u) ≤ L * h := by
  have := Rat.mul_nonneg h0 (show 0 ≤ h - (v - u) by grind)
  grind
 have d : 0 < (g u - L * (v - u)) * (v - u) := Rat.mul_pos (by grind) (by grind)
 grind
/-- Between the bounds: a chain of functions, the second the first's slope; delta, K, L, B as far as they go. -/
structure SCh (M : Rat) (T : Nat) (p : Nat → Rat → Rat) (δ K L B : Rat) : Prop where
 two : 2 ≤ T
 lip : ∀ i,i < T → ∀ x y,-M ≤ x → x ≤ y → y ≤ M → -(K * (y - x)) ≤ p i y - p i x ∧ p i y - p i x ≤ K * (y - x)
 low : ∀ i,i + 1 < T → ∀ x,-M ≤ x → x ≤ M → (δ ≤ p i x ∨ p i x ≤ -δ) ∨ (δ ≤ p (i + 1) x ∨ p (i + 1) x ≤ -δ)
 step : ∀ i,i + 2 < T → ∀ x,-M ≤ x → x ≤ M → ∃ b,-B ≤ b ∧ b ≤ B ∧ p i x = b * p (i + 1) x - p (i + 2) x
 last : ∀ x y,p (T - 1) x = p (T - 1) y
 some : ∀ x,p (T - 1) x ≠ 0
 tay : ∀ x y,-M ≤ x → x ≤ y → y ≤ M → -(L * ((y - x) * (y - x))) ≤ p 0 y - p 0 x - p 1 x * (y - x) ∧ p 0 y - p 0 x - p 1 x * (y - x) ≤ L * ((y - x) * (y - x))
 dpos : 0 < δ
 kpos : 0 ≤ K
 lpos : 0 ≤ L
 bpos : 0 ≤ B
/-- Turns at a number. -/
def turnsAt (p : Nat → Rat → Rat) (T : Nat) (x : Rat) : Nat := (tw (fun i => cmpQ (p i x) 0) T).1
/-- A short step: the turns fall by the roots in it. -/
theorem short_step {M : Rat} {T : Nat} {p : Nat → Rat → Rat} {δ K L B h : Rat} (S : SCh M T p δ K L B) {m : Nat} {r : Nat → Rat} (R : Rooted (p 0) m r) (h1 : K * h < δ) (h2 : B * (K * h) < δ) (h3 : L * h + K * h < δ) (h0 : 0 ≤ h) {x y : Rat} (hx : -M ≤ x) (hxy : x < y) (hy : y ≤ M) (hh : y - x ≤ h) : turnsAt p T x = turnsAt p T y + rcnt r x y m := by
 have hT := S.two
 have k0 : 0 ≤ K * h := Rat.mul_nonneg S.kpos h0
 have kk : ∀ u v,x ≤ u → u ≤ v → v ≤ y → K * (v - u) ≤ K * h := fun u v a b c => by
  have := Rat.mul_nonneg S.kpos (show 0 ≤ h - (v - u) by grind)
  grind
 have lipE : ∀ i,i < T → ∀ u v,x ≤ u → u ≤ v → v ≤ y → -(K * h) ≤ p i v - p i u ∧ p i v - p i u ≤ K * h := fun i hi u v a b c => by
  have e := S.lip i hi u v (by grind) b (by grind)
  have := kk u v a b c
  constructor <;> grind
 have rise : δ ≤ p 1 x → ∀ u v,x ≤ u → u < v → v ≤ y → p 0 u < p 0 v := fun hs => rises (f := p 0) (g := p 1) (ε := K * h) (δ := δ) (h := h) (L := L) hs (fun u a b => (lipE 1 (by omega) x u (by grind) a b).1) (fun u v a b c => (S.tay u v (by grind) b (by grind)).1) hh S.lpos h3
 have fall : p 1 x ≤ -δ → ∀ u v,x ≤ u → u < v → v ≤ y → -(p 0 u) < -(p 0 v) := fun hs => rises (f := fun z => -(p 0 z)) (g := fun z => -(p 1 z)) (ε := K * h) (δ := δ) (h := h) (L := L) (by grind) (fun u a b => by have := (lipE 1 (by omega) x u (by grind) a b).2; grind) (fun u v a b c => by have := (S.tay u v (by grind) b (by grind)).2; grind) hh S.lpos h3
 have Q := local_step (p := p) (x := x) (y := y) (ε := K * h) (δ := δ) (B := B) hT (fun i hi => lipE i hi x y (by grind) (by grind) (by grind)) (fun i hi => S.low i hi x hx (by grind)) (fun i hi => S.step i hi x hx (by grind)) ⟨S.last x y,S.some x⟩ k0 h1 h2
 show (tw (fun i => cmpQ (p i x) 0) T).1 = (tw (fun i => cmpQ (p i y) 0) T).1 + rcnt r x y m
 rcases Q with ⟨g0,e⟩ | ⟨n,f1,g1,e⟩
 ·rw [e,rcnt_none m (fun j hj g => ?_)]
  ·rfl
  ·have e0 := R.root j hj
   have l0 := lipE 0 (by omega) x (r j) (by grind) (by grind) g.2
   have f1 : δ ≤ p 1 x ∨ p 1 x ≤ -δ := by
    rcases S.low 0 (by omega) x hx (by grind) with h | h
    ·rcases h with h | h <;> grind
    ·exact h
   have gs : cmpQ (p 0 x) 0 = cmpQ (p 0 y) 0 := g0.1
   rcases f1 with f1 | f1
   ·have a := rise f1 x (r j) (by grind) g.1 g.2
    rw [cmp_neg (show p 0 x < 0 by grind)] at gs
    by_cases hjy : r j = y
    ·rw [hjy] at e0; rw [cmp_zero e0] at gs; exact absurd gs (by decide)
    ·have b := rise f1 (r j) y (by grind) (by grind) (by grind)
     rw [cmp_pos (show 0 < p 0 y by grind)] at gs; exact absurd gs (by decide)
   ·have a := fall f1 x (r j) (by grind) g.1 g.2
    rw [cmp_pos (show 0 < p 0 x by grind)] at gs
    by_cases hjy : r j = y
    ·rw [hjy] at e0; rw [cmp_zero e0] at gs; exact absurd gs (by decide)
    ·have b := fall f1 (r j) y (by grind) (by grind) (by grind)
     rw [cmp_neg (show p 0 y < 0 by grind)] at gs; exact absurd gs (by decide)
 ·have l1 := lipE 1 (by omega) x y (by grind) (by grind) (by grind)
  rcases f1 with f1 | f1
  ·have c := count_up R hxy (rise f1)
   rw [ch_up (show 0 < p 1 y by grind),ch_up (show 0 < p 1 x by grind)] at e
   omega
  ·have c := count_up R.neg hxy (fall f1)
   rw [ch_down (show p 1 y < 0 by grind),ch_down (show p 1 x < 0 by grind)] at e
   have e1 : ∀ a : Rat,(if -a < 0 then 1 else 0) = (if 0 < a then 1 else 0 : Nat) := fun a => by
    by_cases h : 0 < a
    ·rw [if_pos h,if_pos (by grind)]
    ·rw [if_neg h,if_neg (by grind)]
   rw [e1,e1] at c
   omega

theorem rat_le_nat (q : Rat) : ∃ n : Nat,0 < n ∧ q ≤ ((n : Int) : Rat) := by
 refine ⟨q.ceil.natAbs + 1,by omega,?_⟩
 have h1 : q ≤ ((q.ceil : Int) : Rat) := Rat.le_ceil
 have h2 : q.ceil ≤ ((q.ceil.natAbs + 1 : Nat) : Int) := by omega
 have h3 : ((q.ceil : Int) : Rat) ≤ (((q.ceil.natAbs + 1 : Nat) : Int) : Rat) := Rat.intCast_le_intCast.2 h2
 grind
theorem small_h {a c : Rat} (ha : 0 ≤ a) (hc : 0 < c) : ∃ h,0 < h ∧ a * h < c := by
 have h1 : 0 < a + 1 := by grind
 have hp : 0 < c / (a + 1) := by rw [Rat.div_def]; exact Rat.mul_pos hc (Rat.inv_pos.2 h1)
 have e : c / (a + 1) * (a + 1) = c := Rat.div_mul_cancel (by grind)
 refine ⟨c / (a + 1),hp,?_⟩
 generalize c / (a + 1) = x at *
 grind
theorem steps {M : Rat} {T : Nat} {p : Nat → Rat → Rat} {δ K L B h : Rat} (S : SCh M T p δ K L B) {m : Nat} {r : Nat → Rat} (R : Rooted (p 0) m r) (h1 : K * h < δ) (h2 : B * (K * h) < δ) (h3 : L * h + K * h < δ) (h0 : 0 < h) : ∀ (n : Nat) (x : Rat),-M ≤ x → x + ((n : Int) : Rat) * h ≤ M → turnsAt p T x = turnsAt p T (x + ((n : Int) : Rat) * h) + rcnt r x (x + ((n : Int) : Rat) * h) m
 | 0,x,hx,hy => by
  have e : x + (((0 : Nat) : Int) : Rat) * h = x := by rw [show (((0 : Nat) : Int) : Rat) = 0 from rfl]; grind
  rw [e,rcnt_none m (fun j _ g => by grind)]
  rfl
 | n + 1,x,hx,hy => by
  have e : x + (((n + 1 : Nat) : Int) : Rat) * h = (x + h) + ((n : Int) : Rat) * h := by
   rw [show ((n + 1 : Nat) : Int) = (n : Int) + 1 by omega,Rat.intCast_add,show ((1 : Int) : Rat) = 1 from rfl]; grind
  have hn : (0 : Rat) ≤ ((n : Int) : Rat) := by
   have := Rat.intCast_le_intCast.2 (show (0 : Int) ≤ (n : Int) by omega)
   exact this
  have hp := Rat.mul_nonneg hn (show 0 ≤ h by grind)
  rw [e] at hy ⊢
  have a := short_step S R h1 h2 h3 (by grind) hx (show x < x + h by grind) (by grind) (by grind)
  have b := steps S R h1 h2 h3 h0 n (x + h) (by grind) hy
  have c := rcnt_add (r := r) (x := x) (y := x + h) (z := x + h + ((n : Int) : Rat) * h) (by grind) (by grind) m
  omega
/-- Sturm's count. -/
theorem sturm {M : Rat} {T : Nat} {p : Nat → Rat → Rat} {δ K L B : Rat} (S : SCh M T p δ K L B) {m : Nat} {r : Nat → Rat} (R : Rooted (p 0) m r) {x y : Rat} (hx : -M ≤ x) (hxy : x ≤ y) (hy : y ≤ M) : turnsAt p T x = turnsAt p T y + rcnt r x y m := by
 by_cases e : x = y
 ·subst e
  rw [rcnt_none m (fun j _ g => by grind)]
  rfl
 have hlt : 0 < y - x := by grind
 have n1 := S.kpos
 have n2 := S.lpos
 have n3 := S.bpos
 have bk := Rat.mul_nonneg n3 n1
 obtain ⟨h,hp,hs⟩ := small_h (show 0 ≤ K + B * K + L by grind) S.dpos
 have q1 := Rat.mul_nonneg n1 (show 0 ≤ h by grind)
 have q2 := Rat.mul_nonneg n2 (show 0 ≤ h by grind)
 have q3 := Rat.mul_nonneg bk (show 0 ≤ h by grind)
 obtain ⟨n,hn0,hn⟩ := rat_le_nat ((y - x) / h)
 have e1 : (y - x) / h * h = y - x := Rat.div_mul_cancel (by grind)
 have hnp : (0 : Rat) < ((n : Int) : Rat) := by
  have := Rat.intCast_lt_intCast.2 (show (0 : Int) < (n : Int) by omega)
  exact this
 have hle : y - x ≤ ((n : Int) : Rat) * h := by
  have := Rat.mul_nonneg (show 0 ≤ ((n : Int) : Rat) - (y - x) / h by grind) (show 0 ≤ h by grind)
  grind
 obtain ⟨k,hk⟩ : ∃ k,k = (y - x) / ((n : Int) : Rat) := ⟨_,rfl⟩
 have e2 : k * ((n : Int) : Rat) = y - x := by rw [hk]; exact Rat.div_mul_cancel (by grind)
 have kp : 0 < k := by rw [hk,Rat.div_def]; exact Rat.mul_pos hlt (Rat.inv_pos.2 hnp)
 have kh : k ≤ h := by
  refine Classical.byContradiction (fun g => ?_)
  have := Rat.mul_pos (show 0 < k - h by grind) hnp
  grind
 have m1 := Rat.mul_nonneg n1 (show 0 ≤ h - k by grind)
 have m2 := Rat.mul_nonneg n2 (show 0 ≤ h - k by grind)
 have m3 := Rat.mul_nonneg bk (show 0 ≤ h - k by grind)
 have f := steps S R (h := k) (by grind) (by grind) (by grind) kp n x hx (by grind)
 rw [show x + ((n : Int) : Rat) * k = y by grind] at f
 exact f
theorem uni_up {P : Nat → Rat → Prop} (mono : ∀ i a b,P i a → a ≤ b → P i b) : ∀ T,(∀ i,i < T → ∃ K,0 ≤ K ∧ P i K) → ∃ K,0 ≤ K ∧ ∀ i,i < T → P i K
 | 0,_ => ⟨0,by grind,fun i hi => by omega⟩
 | T + 1,h => by
  obtain ⟨a,a0,ha⟩ := uni_up mono T (fun i hi => h i (by omega))
  obtain ⟨b,b0,hb⟩ := h T (by omega)
  refine ⟨a + b,by grind,fun i hi => ?_⟩
  by_cases e : i = T
  ·rw [e]; exact mono _ _ _ hb (by grind)
  ·exact mono _ _ _ (ha i (by omega)) (by grind)
theorem uni_low {P : Nat → Rat → Prop} (mono : ∀ i a b,P i a → 0 < b → b ≤ a → P i b) : ∀ T,(∀ i,i < T → ∃ d,0 < d ∧ P i d) → ∃ d,0 < d ∧ ∀ i,i < T → P i d
 | 0,_ => ⟨1,by decide +kernel,fun i hi => by omega⟩
 | T + 1,h => by
  obtain ⟨a,a0,ha⟩ := uni_low mono T (fun i hi => h i (by omega))
  obtain ⟨b,b0,hb⟩ := h T (by omega)
  by_cases g : a ≤ b
  ·refine ⟨a,a0,fun i hi => ?_⟩
   by_cases e : i = T
   ·rw [e]; exact mono _ _ _ hb a0 g
   ·exact ha i (by omega)
  ·refine ⟨b,b0,fun i hi => ?_⟩
   by_cases e : i = T
   ·rw [e]; exact hb
   ·exact mono _ _ _ (ha i (by omega)) b0 (by grind)

def BdF (M : Rat) (f : Rat → Rat) : Prop := ∃ B,0 ≤ B ∧ ∀ x,-M ≤ x → x ≤ M → -B ≤ f x ∧ f x ≤ B
theorem BdF.const {M : Rat} (c : Rat) : BdF M (fun _ => c) := (Nice.const c).bd
theorem BdF.mul {M : Rat} {f g : Rat → Rat} (hf : BdF M f) (hg : BdF M g) : BdF M (fun x => f x * g x) := by
 obtain ⟨a,a0,ha⟩ := hf
 obtain ⟨b,b0,hb⟩ := hg
 exact ⟨a * b,Rat.mul_nonneg a0 b0,fun x h1 h2 => bmul (ha x h1 h2).1 (ha x h1 h2).2 (hb x h1 h2).1 (hb x h1 h2).2⟩
theorem BdF.add {M : Rat} {f g : Rat → Rat} (hf : BdF M f) (hg : BdF M g) : BdF M (fun x => f x + g x) := by
 obtain ⟨a,a0,ha⟩ := hf
 obtain ⟨b,b0,hb⟩ := hg
 refine ⟨a + b,by grind,fun x h1 h2 => ?_⟩
 have := ha x h1 h2
 have := hb x h1 h2
 constructor <;> grind
theorem BdF.neg {M : Rat} {f : Rat → Rat} (hf : BdF M f) : BdF M (fun x => -(f x)) := by
 obtain ⟨a,a0,ha⟩ := hf
 refine ⟨a,a0,fun x h1 h2 => ?_⟩
 have := ha x h1 h2
 constructor <;> grind
/-- A chain of functions. -/
structure PCh (M : Rat) (T : Nat) (p p' : Nat → Rat → Rat) (c : Rat) : Prop where
 two : 2 ≤ T
 nice : ∀ i,i < T → Nice M (p i) (p' i)
 step : ∀ i,i + 2 < T → ∃ q,BdF M q ∧ ∀ x,p i x = q x * p (i + 1) x - p (i + 2) x
 last : ∀ x,p (T - 1) x = c
 some : c ≠ 0
 slope : ∀ x,p 1 x = p' 0 x
theorem PCh.bez {M : Rat} {T : Nat} {p p' : Nat → Rat → Rat} {c : Rat} (h : PCh M T p p' c) : ∀ k i,i + 2 + k = T → ∃ u v,BdF M u ∧ BdF M v ∧ ∀ x,u x * p i x + v x * p (i + 1) x = c
 | 0,i,e => by
  refine ⟨fun _ => 0,fun _ => 1,BdF.const 0,BdF.const 1,fun x => ?_⟩
  have := h.last x
  rw [show T - 1 = i + 1 by omega] at this
  rw [this]; grind
 | k + 1,i,e => by
  obtain ⟨u,v,hu,hv,e1⟩ := h.bez k (i + 1) (by omega)
  obtain ⟨q,hq,e2⟩ := h.step i (by omega)
  refine ⟨fun x => -(v x),fun x => u x + v x * q x,hv.neg,hu.add (hv.mul hq),fun x => ?_⟩
  have a := e1 x
  have b := e2 x
  grind
theorem PCh.low {M : Rat} {T : Nat} {p p' : Nat → Rat → Rat} {c : Rat} (h : PCh M T p p' c) (i : Nat) (hi : i + 1 < T) : ∃ d,0 < d ∧ ∀ x,-M ≤ x → x ≤ M → (d ≤ p i x ∨ p i x ≤ -d) ∨ (d ≤ p (i + 1) x ∨ p (i + 1) x ≤ -d) := by
 obtain ⟨u,v,⟨a,a0,ha⟩,⟨b,b0,hb⟩,e⟩ := h.bez (T - (i + 2)) i (by omega)
 obtain ⟨C,hC,hc⟩ : ∃ C,0 < C ∧ (C ≤ c ∨ c ≤ -C) := by
  have := h.some
  by_cases g : 0 < c
  ·exact ⟨c,g,.inl (by grind)⟩
  ·exact ⟨-c,by grind,.inr (by grind)⟩
 obtain ⟨d,d0,hd⟩ := small_h (show 0 ≤ a + b by grind) hC
 refine ⟨d,d0,fun x h1 h2 => Classical.byContradiction (fun g => ?_)⟩
 have p1 := bmul (x := u x) (y := p i x) (b := d) (ha x h1 h2).1 (ha x h1 h2).2 (by grind) (by grind)
 have p2 := bmul (x := v x) (y := p (i + 1) x) (b := d) (hb x h1 h2).1 (hb x h1 h2).2 (by grind) (by grind)
 have := e x
 generalize u x * p i x = m1 at *
 generalize v x * p (i + 1) x = m2 at *
 rcases hc with hc | hc <;> grind
theorem PCh.sch {M : Rat} {T : Nat} {p p' : Nat → Rat → Rat} {c : Rat} (h : PCh M T p p' c) : ∃ δ K L B,SCh M T p δ K L B := by
 obtain ⟨δ,d0,hd⟩ := uni_low (P := fun i d => i + 1 < T → ∀ x,-M ≤ x → x ≤ M → (d ≤ p i x ∨ p i x ≤ -d) ∨ (d ≤ p (i + 1) x ∨ p (i + 1) x ≤ -d)) (fun i a b g b0 ba hi x h1 h2 => by
  rcases g hi x h1 h2 with (g | g) | (g | g)
  ·exact .inl (.inl (by grind))
  ·exact .inl (.inr (by grind))
  ·exact .inr (.inl (by grind))
  ·exact .inr (.inr (by grind))) T (fun i hi => by
   by_cases g : i + 1 < T
   ·obtain ⟨d,d0,hd⟩ := h.low i g
    exact ⟨d,d0,fun _ => hd⟩
   ·exact ⟨1,by decide +kernel,fun hh => absurd hh g⟩)
 obtain ⟨K,K0,hK⟩ := uni_up (P := fun i K => ∀ x y,-M ≤ x → x ≤ y → y ≤ M → -(K * (y - x)) ≤ p i y - p i x ∧ p i y - p i x ≤ K * (y - x)) (fun i a b g ab x y h1 h2 h3 => by
  have := g x y h1 h2 h3
  have := Rat.mul_nonneg (show 0 ≤ b - a by grind) (show 0 ≤ y - x by grind)
  constructor <;> grind) T (fun i hi => (h.nice i hi).lip)
 obtain ⟨L,L0,hL⟩ := (h.nice 0 (by have := h.two; omega)).tay
 obtain ⟨B,B0,hB⟩ := uni_up (P := fun i B => i + 2 < T → ∀ x,-M ≤ x → x ≤ M → ∃ b,-B ≤ b ∧ b ≤ B ∧ p i x = b * p (i + 1) x - p (i + 2) x) (fun i a b g ab hi x h1 h2 => by
  obtain ⟨t,t1,t2,t3⟩ := g hi x h1 h2
  exact ⟨t,by grind,by grind,t3⟩) T (fun i hi => by
   by_cases g : i + 2 < T
   ·obtain ⟨q,⟨B,B0,hB⟩,e⟩ := h.step i g
    exact ⟨B,B0,fun _ x h1 h2 => ⟨q x,(hB x h1 h2).1,(hB x h1 h2).2,e x⟩⟩
   ·exact ⟨0,by grind,fun hh => absurd hh g⟩)
 refine ⟨δ,K,L,B,h.two,hK,fun i hi => hd i (by omega) hi,fun i hi => hB i (by omega) hi,fun x y => by rw [h.last x,h.last y],fun x => by rw [h.last x]; exact h.some,fun x y h1 h2 h3 => ?_,d0,K0,L0,B0⟩
 have := hL x y h1 h2 h3
 rw [h.slope x]
 exact this
/-- Sturm's count for such a chain. -/
theorem PCh.count {M : Rat} {T : Nat} {p p' : Nat → Rat → Rat} {c : Rat} (h : PCh M T p p' c) {m : Nat} {r : Nat → Rat} (R : Rooted (p 0) m r) {x y : Rat} (hx : -M ≤ x) (hxy : x ≤ y) (hy : y ≤ M) : turnsAt p T x = turnsAt p T y + rcnt r x y m := by
 obtain ⟨δ,K,L,B,S⟩ := h.sch
 exact sturm S R hx hxy hy

def prodR (r : Nat → Rat) (x : Rat) : Nat → Rat
 | 0 => 1
 | m + 1 => prodR r x m * (x - r m)
theorem prodR_zero {r : Nat → Rat} {x : Rat} : ∀ m,prodR r x m = 0 → ∃ j,j < m ∧ x = r j
 | 0,h => absurd h (by show ¬ (1 : Rat) = 0; decide +kernel)
 | m + 1,h => by
  rcases Rat.mul_eq_zero.1 h with g | g
  ·obtain ⟨j,hj,e⟩ := prodR_zero m g
   exact ⟨j,by omega,e⟩
  ·exact ⟨m,by omega,by grind⟩
theorem prodR_root {r : Nat → Rat} {j : Nat} : ∀ m,j < m → prodR r (r j) m = 0
 | 0,h => by omega
 | m + 1,h => by
  show prodR r (r j) m * (r j - r m) = 0
  by_cases e : j = m
  ·rw [e,show r m - r m = 0 by grind,Rat.mul_zero]
  ·rw [prodR_root m (by omega),Rat.zero_mul]
theorem prodR_same {r : Nat → Rat} {x y : Rat} (hxy : x ≤ y) : ∀ m,(∀ j,j < m → ¬ (x ≤ r j ∧ r j ≤ y)) → 0 < prodR r x m * prodR r y m
 | 0,_ => by show (0 : Rat) < 1 * 1; decide +kernel
 | m + 1,h => by
  have ih := prodR_same (r := r) hxy m (fun j hj => h j (by omega))
  have g := h m (by omega)
  have q : 0 < (x - r m) * (y - r m) := by
   by_cases a : r m < x
   ·exact Rat.mul_pos (by grind) (by grind)
   ·have := Rat.mul_pos (show 0 < r m - x by grind) (show 0 < r m - y by grind)
    grind
  have := Rat.mul_pos ih q
  show 0 < prodR r x m * (x - r m) * (prodR r y m * (y - r m))
  grind
theorem same_sign {a b : Rat} (h : 0 < a * b) : cmpQ a 0 = cmpQ b 0 := by
 rcases sign_cases a with ⟨g,e⟩ | ⟨g,e⟩ | ⟨g,e⟩ <;> rcases sign_cases b with ⟨k,f⟩ | ⟨k,f⟩ | ⟨k,f⟩ <;> rw [e,f] <;> exfalso
 ·rw [k,Rat.mul_zero] at h; exact absurd h (by decide +kernel)
 ·have := Rat.mul_pos g (show 0 < -b by grind); grind
 ·rw [g,Rat.zero_mul] at h; exact absurd h (by decide +kernel)
 ·rw [g,Rat.zero_mul] at h; exact absurd h (by decide +kernel)
 ·have := Rat.mul_pos (show 0 < -a by grind) k; grind
 ·rw [k,Rat.mul_zero] at h; exact absurd h (by decide +kernel)
theorem sq_pos (x : Rat) : 0 < 1 + 3 * (x * x) := by
 have : 0 ≤ x * x := by
  by_cases h : 0 ≤ x
  ·exact Rat.mul_nonneg h h
  ·have := Rat.mul_nonneg (show 0 ≤ -x by grind) (show 0 ≤ -x by grind)
   grind
 grind
theorem Rooted.made {c : Rat} (hc : c ≠ 0) {m : Nat} {r : Nat → Rat} (ha : ∀ i j,i < m → j < m → r i = r j → i = j) {f : Rat → Rat} (hf : ∀ x,f x = c * ((1 + 3 * (x * x)) * prodR r x m)) : Rooted f m r := by
 refine ⟨fun j hj => by rw [hf,prodR_root m hj,Rat.mul_zero,Rat.mul_zero],ha,fun x y h g => ?_,fun x h => ?_⟩
 ·apply same_sign
  rw [hf,hf]
  have p1 := prodR_same h m g
  have p2 := Rat.mul_pos (sq_pos x) (sq_pos y)
  have p3 : 0 < c * c := by
   by_cases k : 0 < c
   ·exact Rat.mul_pos k k
   ·have := Rat.mul_pos (show 0 < -c by grind) (show 0 < -c by grind)
    grind
  have := Rat.mul_pos p3 (Rat.mul_pos p2 p1)
  generalize prodR r x m = a at *
  generalize prodR r y m = b at *
  generalize 1 + 3 * (x * x) = s at *
  generalize 1 + 3 * (y * y) = t at *
  grind
 ·rw [hf] at h
  rcases Rat.mul_eq_zero.1 h with g | g
  ·exact absurd g hc
  ·rcases Rat.mul_eq_zero.1 g with g | g
   ·have := sq_pos x; grind
   ·exact prodR_zero m g

/-- A division, at a number. -/
theorem ev_div (a b : Nat → Rat) (la lb : Nat) (h0 : 0 < lb) (htop : b (lb - 1) ≠ 0) (x : Rat) : evN a x la = evN (divQ b (lb - 1) (la - (lb - 1)) a) x (la - (lb - 1)) * evN b x lb + evN (divR b (lb - 1) (la - (lb - 1)) a) x (min la (lb - 1)) := by
 have h := div_co2 a b la lb h0 htop
 have e1 := evN_any la a x (la - (lb - 1) + lb + la) (by omega)
 have e2 := evN_any (min la (lb - 1)) (divR b (lb - 1) (la - (lb - 1)) a) x (la - (lb - 1) + lb + la) (by omega)
 have e3 := evN_more (conv (la - (lb - 1)) (divQ b (lb - 1) (la - (lb - 1)) a) lb b) x (la - (lb - 1) + lb) (fun i hi => conv_far _ _ _ _ _ (by omega)) la
 rw [evN_conv] at e3
 rw [← e1,← e2,← e3,← evN_plus]
 exact evN_congr x _ (fun i _ => h i)
theorem evN_times (f : Nat → Rat) (s x : Rat) : ∀ n,evN (fun i => f i * s) x n = evN f x n * s
 | 0 => (Rat.zero_mul s).symm
 | n + 1 => by
  show evN (fun i => f i * s) x n + f n * s * x ^ n = (evN f x n + f n * x ^ n) * s
  rw [evN_times f s x n]
  grind
/-- What a chain is, its sizes aside. -/
structure ChA (n : Nat) (q : Nat → Rat) (T : Nat) (N : Nat → Nat) (C : Nat → Nat → Rat) : Prop where
 pos : ∀ t,t < T → 0 < N t
 top : ∀ t,t < T → C t (N t - 1) ≠ 0
 n0 : N 0 = trimN q n
 c0 : ∀ i,C 0 i = q i
 n1 : N 1 = trimN (dQ q) (n - 1)
 c1 : 1 < T → ∀ i,C 1 i = dQ q i
 len : ∀ t,t + 1 < T → trimN (divR (C (t + 1)) (N (t + 1) - 1) (N t - (N (t + 1) - 1)) (C t)) (min (N t) (N (t + 1) - 1)) = N (t + 2)
 neg : ∀ t,t + 2 < T → ∀ i,C (t + 2) i = divR (C (t + 1)) (N (t + 1) - 1) (N t - (N (t + 1) - 1)) (C t) i * ((-1 : Int) : Rat)
 zero : N T = 0
theorem ChA.pch {n : Nat} {q : Nat → Rat} {T : Nat} {N : Nat → Nat} {C : Nat → Nat → Rat} (h : ChA n q T N C) (h2 : 2 ≤ T) (hl : N (T - 1) = 1) {M : Rat} (hM : 0 ≤ M) : PCh M T (fun t x => evN (C t) x (N t)) (fun t x => dev (C t) x (N t)) (C (T - 1) 0) := by
 refine ⟨h2,fun i hi => Nice.poly hM (C i) (N i),fun i hi => ⟨fun x => evN (divQ (C (i + 1)) (N (i + 1) - 1) (N i - (N (i + 1) - 1)) (C i)) x (N i - (N (i + 1) - 1)),(Nice.poly hM _ _).bd,fun x => ?_⟩,fun x => ?_,?_,fun x => ?_⟩
 ·have e := ev_div (C i) (C (i + 1)) (N i) (N (i + 1)) (h.pos _ (by omega)) (h.top _ (by omega)) x
  have e2 := evN_trim (divR (C (i + 1)) (N (i + 1) - 1) (N i - (N (i + 1) - 1)) (C i)) x (min (N i) (N (i + 1) - 1))
  rw [h.len i (by omega)] at e2
  have e3 : evN (C (i + 2)) x (N (i + 2)) = evN (divR (C (i + 1)) (N (i + 1) - 1) (N i - (N (i + 1) - 1)) (C i)) x (N (i + 2)) * ((-1 : Int) : Rat) := by
   rw [← evN_times]
   exact evN_congr x _ (fun j _ => h.neg i hi j)
  rw [show ((-1 : Int) : Rat) = -1 from rfl] at e3
  show evN (C i) x (N i) = _
  rw [e,← e2]
  show _ = _ - evN (C (i + 2)) x (N (i + 2))
  rw [e3]
  grind
 ·show evN (C (T - 1)) x (N (T - 1)) = C (T - 1) 0
  rw [hl]
  exact evN_one _ _
 ·have := h.top (T - 1) (by omega)
  rw [hl] at this
  exact this
 ·show evN (C 1) x (N 1) = dev (C 0) x (N 0)
  have e0 : C 0 = q := funext h.c0
  have e1 : C 1 = dQ q := funext (h.c1 (by omega))
  have e2 := dQ_len n q
  have e3 := h.n0
  have e4 := h.n1
  have p0 := h.pos 0 (by omega)
  rw [e0,e1,show N 1 = N 0 - 1 by omega]
  obtain ⟨k,hk⟩ : ∃ k,N 0 = k + 1 := ⟨N 0 - 1,by omega⟩
  rw [hk,dev_ev,Nat.add_sub_cancel]

theorem cmp_mul (a b : Rat) : cmpQ (a * b) 0 = cmpQ a 0 * cmpQ b 0 := by
 rcases sign_cases a with ⟨g,e⟩ | ⟨g,e⟩ | ⟨g,e⟩ <;> rcases sign_cases b with ⟨k,f⟩ | ⟨k,f⟩ | ⟨k,f⟩ <;> rw [e,f]
 ·rw [cmp_pos (Rat.mul_pos g k)]; rfl
 ·rw [cmp_zero (by rw [k,Rat.mul_zero])]; rfl
 ·rw [cmp_neg (by have := Rat.mul_pos g (show 0 < -b by grind); grind)]; rfl
 ·rw [cmp_zero (by rw [g,Rat.zero_mul])]; rfl
 ·rw [cmp_zero (by rw [g,Rat.zero_mul])]; rfl
 ·rw [cmp_zero (by rw [g,Rat.zero_mul])]; rfl
 ·rw [cmp_neg (by have := Rat.mul_pos (show 0 < -a by grind) k; grind)]; rfl
 ·rw [cmp_zero (by rw [k,Rat.mul_zero])]; rfl
 ·rw [cmp_pos (by have := Rat.mul_pos (show 0 < -a by grind) (show 0 < -b by grind); grind)]; rfl
theorem sgn_cmp (N : Nat → Nat) (Q : Nat → Nat → Rat) (R : Nat → Rat) (x : Rat) (i : Nat) : sgn N Q R x i = cmpQ (evN (fun j => Q i j * R i) x (N i)) 0 := by
 rw [evN_times,cmp_mul]; rfl
theorem turns_same (N : Nat → Nat) (Q : Nat → Nat → Rat) (R : Nat → Rat) (T : Nat) (x : Rat) : (tw (sgn N Q R x) T).1 = turnsAt (fun t x => evN (fun j => Q t j * R t) x (N t)) T x := by
 have e : sgn N Q R x = fun i => cmpQ (evN (fun j => Q i j * R i) x (N i)) 0 := funext (sgn_cmp N Q R x)
 rw [e]
 rfl
def dcnt (r : Nat → Rat) (x y : Rat) (seen : Nat → Bool) : Nat → Nat
 | 0 => 0
 | m + 1 => dcnt r x y seen m + (if seen m = false ∧ x < r m ∧ r m ≤ y then 1 else 0)
/-- A list's numbers, each once: rows of distinct numbers with the same members. -/
theorem distinct (r : Nat → Rat) (x y : Rat) (seen : Nat → Bool) : ∀ m,(∀ i,i < m → (seen i = true ↔ ∃ k,k < i ∧ r k = r i)) → ∃ (d : Nat) (s : Nat → Rat),d ≤ m ∧ (∀ i j,i < d → j < d → s i = s j → i = j) ∧ (∀ i,i < m → ∃ j,j < d ∧ s j = r i) ∧ (∀ j,j < d → ∃ i,i < m ∧ s j = r i) ∧ rcnt s x y d = dcnt r x y seen m
 | 0,_ => ⟨0,r,by omega,fun i j hi => by omega,fun i hi => by omega,fun j hj => by omega,rfl⟩
 | m + 1,h => by
  obtain ⟨d,s,h1,h2,h3,h4,h5⟩ := distinct r x y seen m (fun i hi => h i (by omega))
  have hm := h m (by omega)
  by_cases g : seen m = true
  ·obtain ⟨k,hk,e⟩ := hm.1 g
   refine ⟨d,s,by omega,h2,fun i hi => ?_,fun j hj => ?_,?_⟩
   ·by_cases e' : i = m
    ·rw [e',← e]; exact h3 k hk
    ·exact h3 i (by omega)
   ·obtain ⟨i,hi,e'⟩ := h4 j hj
    exact ⟨i,by omega,e'⟩
   ·show _ = dcnt r x y seen m + (if seen m = false ∧ x < r m ∧ r m ≤ y then 1 else 0)
    rw [if_neg (fun a => by rw [g] at a; exact absurd a.1 (by decide)),h5]
    rfl
  ·have hf : ∀ k,k < m → r k ≠ r m := fun k hk e => g (hm.2 ⟨k,hk,e⟩)
   have gf : seen m = false := by cases e : seen m; rfl; exact absurd e g
   obtain ⟨s',hs'⟩ : ∃ s' : Nat → Rat,s' = fun j => if j < d then s j else r m := ⟨_,rfl⟩
   have a1 : ∀ j,j < d → s' j = s j := fun j hj => by rw [hs']; exact if_pos hj
   have a2 : s' d = r m := by rw [hs']; exact if_neg (by omega)
   have hc : ∀ k,k ≤ d → rcnt s' x y k = rcnt s x y k := fun k => by
    induction k with
    | zero => intro _; rfl
    | succ k ih =>
     intro hk
     show rcnt s' x y k + (if x < s' k ∧ s' k ≤ y then 1 else 0) = rcnt s x y k + (if x < s k ∧ s k ≤ y then 1 else 0)
     rw [ih (by omega),a1 k (by omega)]
   refine ⟨d + 1,s',by omega,fun i j hi hj e => ?_,fun i hi => ?_,fun j hj => ?_,?_⟩
   ·by_cases ei : i = d
    ·by_cases ej : j = d
     ·omega
     ·rw [ei,a2,a1 j (by omega)] at e
      obtain ⟨k,hk,e'⟩ := h4 j (by omega)
      exact absurd (e'.symm.trans e.symm) (hf k hk)
    ·by_cases ej : j = d
     ·rw [ej,a2,a1 i (by omega)] at e
      obtain ⟨k,hk,e'⟩ := h4 i (by omega)
      exact absurd (e'.symm.trans e) (hf k hk)
     ·rw [a1 i (by omega),a1 j (by omega)] at e
      exact h2 i j (by omega) (by omega) e
   ·by_cases e' : i = m
    ·exact ⟨d,by omega,by rw [a2,e']⟩
    ·obtain ⟨j,hj,e⟩ := h3 i (by omega)
     exact ⟨j,by omega,by rw [a1 j hj]; exact e⟩
   ·by_cases e' : j = d
    ·exact ⟨m,by omega,by rw [e',a2]⟩
    ·obtain ⟨i,hi,e⟩ := h4 j (by omega)
     exact ⟨i,by omega,by rw [a1 j (by omega)]; exact e⟩
   ·show rcnt s' x y d + (if x < s' d ∧ s' d ≤ y then 1 else 0) = dcnt r x y seen m + (if seen m = false ∧ x < r m ∧ r m ≤ y then 1 else 0)
    rw [hc d (by omega),h5,a2]
    congr 1
    by_cases k : x < r m ∧ r m ≤ y
    ·rw [if_pos k,if_pos ⟨gf,k⟩]
    ·rw [if_neg k,if_neg (fun a => k a.2)]

theorem ChA.last_dv {n : Nat} {q : Nat → Rat} {T : Nat} {N : Nat → Nat} {C : Nat → Nat → Rat} (h : ChA n q T N C) : ∀ k t,t + 1 + k = T → Dv (co (N (T - 1)) (C (T - 1))) (co (N t) (C t)) ∧ (0 < k → Dv (co (N (T - 1)) (C (T - 1))) (co (N (t + 1)) (C (t + 1))))
 | 0,t,e => by
  rw [show T - 1 = t by omega]
  exact ⟨Dv.self _,fun h => by omega⟩
 | k + 1,t,e => by
  obtain ⟨d1,d2⟩ := h.last_dv k (t + 1) (by omega)
  refine ⟨(Dv_div (h.pos (t + 1) (by omega)) (h.top (t + 1) (by omega)) d1).2 ?_,fun _ => d1⟩
  have hl := h.len t (by omega)
  have hc := co_trim (divR (C (t + 1)) (N (t + 1) - 1) (N t - (N (t + 1) - 1)) (C t)) (min (N t) (N (t + 1) - 1))
  rw [hl] at hc
  rcases Nat.eq_zero_or_pos k with ek | ek
  ·have hz : N (t + 2) = 0 := by rw [show t + 2 = T by omega]; exact h.zero
   rw [hz] at hc
   exact (Dv.zero _).congr (fun i => by rw [← hc i]; exact (co_ge (by omega)).symm)
  ·refine ((d2 ek).scale (-1)).congr (fun i => ?_)
   rw [← hc i]
   have hn := h.neg t (by omega) i
   rw [show ((-1 : Int) : Rat) = -1 from rfl] at hn
   show co (N (t + 2)) (C (t + 2)) i * -1 = co (N (t + 2)) _ i
   unfold co
   by_cases g : i < N (t + 2)
   ·rw [if_pos g,if_pos g,hn]; grind
   ·rw [if_neg g,if_neg g]; grind
/-- No divisor in common: the last is a number. -/
theorem ChA.last_one {n : Nat} {q : Nat → Rat} {T : Nat} {N : Nat → Nat} {C : Nat → Nat → Rat} (h : ChA n q T N C) (h2 : 2 ≤ T) (hcop : ∀ d,Dv d (co (N 0) (C 0)) → Dv d (co (N 1) (C 1)) → Dv d cone) : N (T - 1) = 1 := by
 obtain ⟨d1,d2⟩ := h.last_dv (T - 1) 0 (by omega)
 have d := hcop _ d1 (d2 (by omega))
 have hp := h.pos (T - 1) (by omega)
 have ht := h.top (T - 1) (by omega)
 refine Classical.byContradiction (fun g => ?_)
 have := Dv.short hp ht d (fun i hi => by unfold cone; rw [if_neg (by omega)]) 0
 exact absurd this (by show ¬ (if (0 : Nat) = 0 then (1 : Rat) else 0) = 0; rw [if_pos rfl]; decide +kernel)

def Fins (f : Nat → Rat) : Prop := ∃ N,∀ i,N ≤ i → f i = 0
theorem Fins.mul {f g : Nat → Rat} (hf : Fins f) (hg : Fins g) : Fins (cmul f g) := by
 obtain ⟨N,h1⟩ := hf
 obtain ⟨M,h2⟩ := hg
 exact ⟨N + M,fun i hi => cmul_far h1 h2 i hi⟩
theorem Fins.add {f g : Nat → Rat} (hf : Fins f) (hg : Fins g) : Fins (fun i => f i + g i) := by
 obtain ⟨N,h1⟩ := hf
 obtain ⟨M,h2⟩ := hg
 exact ⟨N + M,fun i hi => by show f i + g i = 0; rw [h1 i (by omega),h2 i (by omega)]; exact Rat.add_zero 0⟩
theorem Fins.scale {f : Nat → Rat} (hf : Fins f) (s : Rat) : Fins (fun i => f i * s) := by
 obtain ⟨N,h1⟩ := hf
 exact ⟨N,fun i hi => by show f i * s = 0; rw [h1 i hi,Rat.zero_mul]⟩
theorem Fins.co (n : Nat) (q : Nat → Rat) : Fins (co n q) := ⟨n,fun i hi => co_ge (by omega)⟩
theorem Fins.zero : Fins (fun _ => 0) := ⟨0,fun _ _ => rfl⟩
theorem cm_comm (f g : Nat → Rat) : cmul f g = cmul g f := funext (cmul_comm f g)
theorem cm_assoc (f g h : Nat → Rat) : cmul (cmul f g) h = cmul f (cmul g h) := funext (cmul_assoc f g h)
theorem cm_one (f : Nat → Rat) : cmul f cone = f := funext (fun i => by rw [cmul_comm,cmul_one])
theorem cm_add (f g h : Nat → Rat) : cmul (fun i => f i + g i) h = fun i => cmul f h i + cmul g h i := funext (fun i => by rw [cmul_comm,cmul_add,cmul_comm h f,cmul_comm h g])
/-- Sums of multiples of both are 1. -/
def Bz (f g : Nat → Rat) : Prop := ∃ u v,Fins u ∧ Fins v ∧ ∀ i,cmul u f i + cmul v g i = cone i
theorem Bz.symm {f g : Nat → Rat} (h : Bz f g) : Bz g f := by
 obtain ⟨u,v,h1,h2,e⟩ := h
 exact ⟨v,u,h2,h1,fun i => by rw [Rat.add_comm]; exact e i⟩
theorem Bz.cop {f g : Nat → Rat} (h : Bz f g) (d : Nat → Rat) (hf : Dv d f) (hg : Dv d g) : Dv d cone := by
 obtain ⟨u,v,⟨N,h1⟩,⟨M,h2⟩,e⟩ := h
 exact ((hf.mul h1).add (hg.mul h2)).congr e
theorem Bz.mul {a b g : Nat → Rat} (ha : Bz a g) (hb : Bz b g) (fb : Fins b) : Bz (cmul a b) g := by
 obtain ⟨u,v,f1,f2,e1⟩ := ha
 obtain ⟨u',v',f3,f4,e2⟩ := hb
 refine ⟨cmul u u',fun i => cmul (cmul u' b) v i + v' i,f1.mul f3,((f3.mul fb).mul f2).add f4,fun i => ?_⟩
 have q1 : cmul (cmul u u') (cmul a b) = cmul (cmul u' b) (cmul u a) := by
  rw [cm_assoc,cm_comm a b,← cm_assoc u' b a,cm_comm u,cm_assoc (cmul u' b) a u,cm_comm a u]
 have q2 : cmul (fun i => cmul (cmul u' b) v i + v' i) g = fun i => cmul (cmul u' b) (cmul v g) i + cmul v' g i := by
  rw [cm_add,cm_assoc (cmul u' b) v g]
 rw [q1,q2]
 show cmul (cmul u' b) (cmul u a) i + (cmul (cmul u' b) (cmul v g) i + cmul v' g i) = cone i
 rw [← Rat.add_assoc,← cmul_add (cmul u' b) (cmul u a) (cmul v g) i,show (fun i => cmul u a i + cmul v g i) = cone from funext e1,cm_one]
 exact e2 i
/-- What is left of a division tells it. -/
theorem Bz.rest {f g h r : Nat → Rat} (fh : Fins h) (e : ∀ i,g i = cmul h f i + r i) (b : Bz f r) : Bz f g := by
 obtain ⟨u,v,f1,f2,k⟩ := b
 refine ⟨fun i => u i + cmul v h i * (-1),v,f1.add ((f2.mul fh).scale (-1)),f2,fun i => ?_⟩
 have q1 : cmul v g i = cmul (cmul v h) f i + cmul v r i := by
  rw [show g = fun i => cmul h f i + r i from funext e,cmul_add,cmul_assoc]
 have q2 : cmul (fun i => u i + cmul v h i * (-1)) f i = cmul u f i + cmul (cmul v h) f i * (-1) := by
  rw [cm_add u (fun i => cmul v h i * (-1)) f]
  show cmul u f i + cmul (fun i => cmul v h i * (-1)) f i = _
  rw [cmul_comm (fun i => cmul v h i * (-1)) f,cmul_scale,cmul_comm f (cmul v h)]
 have q3 := k i
 rw [q1,q2]
 generalize cmul (cmul v h) f i = m at *
 grind
theorem Bz.number {f g : Nat → Rat} {c : Rat} (hc : c ≠ 0) (e : ∀ i,g i = cone i * c) : Bz f g := by
 refine ⟨fun _ => 0,fun i => cone i * c⁻¹,Fins.zero,(Fins.scale ⟨1,fun i hi => by unfold cone; rw [if_neg (by omega)]⟩ _),fun i => ?_⟩
 rw [show g = fun i => cone i * c from funext e,cmul_scale,cmul_comm (fun i => cone i * c⁻¹) cone,cmul_scale,cmul_one,show cmul (fun _ => 0) f i = 0 from sumq_zero _ _ (fun j _ => Rat.zero_mul _),Rat.zero_add,Rat.mul_assoc,Rat.inv_mul_cancel c hc,Rat.mul_one]
/-- x - t. -/
def lin (t : Rat) (i : Nat) : Rat := if i = 0 then -t else 1
theorem lin_ev (t x : Rat) : evN (lin t) x 2 = x - t := by
 show 0 + lin t 0 * x ^ 0 + lin t 1 * x ^ 1 = x - t
 rw [show lin t 0 = -t from rfl,show lin t 1 = 1 from rfl,Rat.pow_zero,Rat.pow_succ,Rat.pow_zero]
 grind
theorem Bz.line {t : Rat} {n : Nat} {g : Nat → Rat} (h : evN g t n ≠ 0) : Bz (co 2 (lin t)) (co n g) := by
 have hn : 0 < n := by
  rcases Nat.eq_zero_or_pos n with e | e
  ·subst e; exact absurd rfl h
  ·exact e
 have ht : lin t (2 - 1) ≠ 0 := by show (1 : Rat) ≠ 0; decide +kernel
 have e := ev_div g (lin t) n 2 (by omega) ht t
 rw [lin_ev,show t - t = 0 by grind,Rat.mul_zero,Rat.zero_add,show min n (2 - 1) = 1 by omega,evN_one] at e
 refine Bz.rest (h := co (n - (2 - 1)) (divQ (lin t) (2 - 1) (n - (2 - 1)) g)) (Fins.co _ _) (div_co2 g (lin t) n 2 (by omega) ht) (Bz.number (c := divR (lin t) (2 - 1) (n - (2 - 1)) g 0) (by rw [← e]; exact h) (fun i => ?_))
 rw [show min n (2 - 1) = 1 by omega]
 unfold co cone
 by_cases hi : i < 1
 ·obtain rfl : i = 0 := by omega
  rw [if_pos hi,if_pos rfl,Rat.one_mul]
 ·rw [if_neg hi,if_neg (by omega),Rat.zero_mul]

theorem sumq_head (f : Nat → Rat) : ∀ n,sumq f (n + 1) = f 0 + sumq (fun i => f (i + 1)) n
 | 0 => by
  show 0 + f 0 = f 0 + 0
  grind
 | n + 1 => by
  show sumq f (n + 1) + f (n + 1) = f 0 + (sumq (fun i => f (i + 1)) n + f (n + 1))
  rw [sumq_head f n]
  grind
theorem sumq_mulR (f : Nat → Rat) (s : Rat) : ∀ n,sumq (fun i => f i * s) n = sumq f n * s
 | 0 => (Rat.zero_mul s).symm
 | n + 1 => by
  show sumq (fun i => f i * s) n + f n * s = (sumq f n + f n) * s
  rw [sumq_mulR f s n]
  grind
/-- Each coefficient times its place. -/
def eul (f : Nat → Rat) (i : Nat) : Rat := f i * ((i : Int) : Rat)
theorem eul_mul (f g : Nat → Rat) (p : Nat) : eul (cmul f g) p = cmul (eul f) g p + cmul f (eul g) p := by
 unfold cmul
 rw [← sumq_add]
 show sumq (fun i => f i * g (p - i)) (p + 1) * ((p : Int) : Rat) = _
 rw [← sumq_mulR]
 refine sumq_congr _ _ _ (fun i hi => ?_)
 show f i * g (p - i) * ((p : Int) : Rat) = f i * ((i : Int) : Rat) * g (p - i) + f i * (g (p - i) * (((p - i : Nat) : Int) : Rat))
 have e : ((p : Int) : Rat) = ((i : Int) : Rat) + (((p - i : Nat) : Int) : Rat) := by
  rw [← Rat.intCast_add,show (p : Int) = (i : Int) + ((p - i : Nat) : Int) by omega]
 rw [e]
 grind
theorem dQ_eul (f : Nat → Rat) (i : Nat) : dQ f i = eul f (i + 1) := rfl
theorem cmul_dQ (f g : Nat → Rat) (p : Nat) : cmul (eul f) g (p + 1) = cmul (dQ f) g p := by
 unfold cmul
 rw [sumq_head]
 have e : eul f 0 * g (p + 1 - 0) = 0 := by
  show f 0 * (((0 : Nat) : Int) : Rat) * g (p + 1) = 0
  rw [show (((0 : Nat) : Int) : Rat) = 0 from rfl,Rat.mul_zero,Rat.zero_mul]
 rw [e,Rat.zero_add]
 refine sumq_congr _ _ _ (fun i hi => ?_)
 show eul f (i + 1) * g (p + 1 - (i + 1)) = dQ f i * g (p - i)
 rw [Nat.add_sub_add_right]
 rfl
/-- The slope of a product. -/
theorem dQ_mul (f g : Nat → Rat) (p : Nat) : dQ (cmul f g) p = cmul (dQ f) g p + cmul f (dQ g) p := by
 rw [dQ_eul,eul_mul,cmul_dQ,cmul_comm f (eul g),cmul_dQ,cmul_comm (dQ g) f]
theorem Fins.dQ {f : Nat → Rat} (h : Fins f) : Fins (dQ f) := by
 obtain ⟨N,h⟩ := h
 exact ⟨N,fun i hi => by show f (i + 1) * _ = 0; rw [h (i + 1) (by omega),Rat.zero_mul]⟩
/-- A product has nothing in common with its slope if its factors have nothing in common with theirs, nor with each other. -/
theorem Bz.slope {a b : Nat → Rat} (fa : Fins a) (fb : Fins b) (h1 : Bz a (dQ a)) (h2 : Bz b (dQ b)) (h3 : Bz a b) : Bz (cmul a b) (dQ (cmul a b)) := by
 have ea : dQ (cmul a b) = fun i => cmul (dQ b) a i + cmul (dQ a) b i := funext (fun i => by rw [dQ_mul,Rat.add_comm,cmul_comm a (dQ b)])
 have eb : dQ (cmul a b) = fun i => cmul (dQ a) b i + cmul a (dQ b) i := funext (fun i => dQ_mul a b i)
 have k1 : Bz a (dQ (cmul a b)) := by
  rw [ea]
  exact Bz.rest fb.dQ (fun i => rfl) (Bz.symm (Bz.mul h1.symm h3.symm fb))
 have k2 : Bz b (dQ (cmul a b)) := by
  rw [eb]
  exact Bz.rest fa.dQ (fun i => rfl) (Bz.symm (Bz.mul h3 h2.symm fb.dQ))
 exact Bz.mul k1 k2 fb

def w3 (i : Nat) : Rat := if i = 0 then 1 else if i = 2 then 3 else 0
def prd (s : Nat → Rat) : Nat → (Nat → Rat)
 | 0 => w3
 | m + 1 => cmul (prd s m) (co 2 (lin (s m)))
theorem co_all_of {n : Nat} {f : Nat → Rat} (h : ∀ i,n ≤ i → f i = 0) : co n f = f := funext (fun i => by
 by_cases g : i < n
 ·exact co_lt g
 ·rw [co_ge g,h i (by omega)])
theorem prd_far (s : Nat → Rat) : ∀ m i,m + 3 ≤ i → prd s m i = 0
 | 0,i,h => by
  show w3 i = 0
  unfold w3
  rw [if_neg (by omega),if_neg (by omega)]
 | m + 1,i,h => by
  show cmul (prd s m) (co 2 (lin (s m))) i = 0
  rw [← co_all_of (prd_far s m)]
  exact conv_far (m + 3) (prd s m) 2 (lin (s m)) i (by omega)
theorem prd_fins (s : Nat → Rat) (m : Nat) : Fins (prd s m) := ⟨m + 3,prd_far s m⟩
theorem prd_ev (s : Nat → Rat) (x : Rat) : ∀ m,evN (prd s m) x (m + 3) = (1 + 3 * (x * x)) * prodR s x m
 | 0 => by
  show 0 + w3 0 * x ^ 0 + w3 1 * x ^ 1 + w3 2 * x ^ 2 = (1 + 3 * (x * x)) * 1
  rw [show w3 0 = 1 from rfl,show w3 1 = 0 from rfl,show w3 2 = 3 from rfl,Rat.pow_succ x 1,Rat.pow_succ x 0,Rat.pow_zero]
  grind
 | m + 1 => by
  have e := evN_conv (m + 3) (prd s m) 2 (lin (s m)) x
  have hc : conv (m + 3) (prd s m) 2 (lin (s m)) = prd s (m + 1) := by
   show cmul (co (m + 3) (prd s m)) (co 2 (lin (s m))) = cmul (prd s m) (co 2 (lin (s m)))
   rw [co_all_of (prd_far s m)]
  rw [hc,prd_ev s x m,lin_ev] at e
  have k := evN_more (prd s (m + 1)) x (m + 1 + 3) (prd_far s (m + 1)) 1
  show evN (prd s (m + 1)) x (m + 1 + 3) = (1 + 3 * (x * x)) * (prodR s x m * (x - s m))
  rw [← k,show m + 1 + 3 + 1 = m + 3 + 2 by omega,e]
  grind
theorem lin_slope (t : Rat) (i : Nat) : dQ (co 2 (lin t)) i = cone i * 1 := by
 show co 2 (lin t) (i + 1) * (((i + 1 : Nat) : Int) : Rat) = cone i * 1
 rcases Nat.eq_zero_or_pos i with e | e
 ·subst e
  rw [co_lt (by omega),show lin t (0 + 1) = 1 from rfl,show (((0 + 1 : Nat) : Int) : Rat) = 1 from rfl]
  rfl
 ·rw [co_ge (by omega)]
  unfold cone
  rw [if_neg (by omega),Rat.zero_mul,Rat.zero_mul]
theorem w3_slope : Bz w3 (dQ w3) := by
 refine ⟨cone,fun i => if i = 1 then -(1 / 2) else 0,⟨1,fun i hi => by unfold cone; rw [if_neg (by omega)]⟩,⟨2,fun i hi => if_neg (by omega)⟩,fun i => ?_⟩
 rw [cmul_one]
 by_cases h : 4 ≤ i
 ·rw [cmul_far (N := 2) (M := 2) (fun i hi => if_neg (by omega)) (fun i hi => by show w3 (i + 1) * _ = 0; unfold w3; rw [if_neg (by omega),if_neg (by omega),Rat.zero_mul]) i (by omega)]
  unfold w3 cone
  rw [if_neg (by omega),if_neg (by omega),if_neg (by omega),Rat.add_zero]
 ·rcases (by omega : i = 0 ∨ i = 1 ∨ i = 2 ∨ i = 3) with rfl | rfl | rfl | rfl <;> decide +kernel
/-- Nothing in common with its slope. -/
theorem prd_slope (s : Nat → Rat) : ∀ m,(∀ i j,i < m → j < m → s i = s j → i = j) → Bz (prd s m) (dQ (prd s m))
 | 0,_ => w3_slope
 | m + 1,h => by
  refine Bz.slope (prd_fins s m) (Fins.co _ _) (prd_slope s m (fun i j a b => h i j (by omega) (by omega))) (Bz.number (c := 1) (by decide +kernel) (lin_slope (s m))) (Bz.symm ?_)
  rw [← co_all_of (prd_far s m)]
  refine Bz.line ?_
  rw [prd_ev]
  intro e
  rcases Rat.mul_eq_zero.1 e with g | g
  ·have := sq_pos (s m); grind
  ·obtain ⟨j,hj,e⟩ := prodR_zero m g
   have := h m j (by omega) (by omega) e
   omega

def lnr (t : Rat) : Nat → Rat := co 2 (lin t)
def lp (t : Rat) : Nat → (Nat → Rat)
 | 0 => cone
 | k + 1 => cmul (lp t k) (lnr t)
def sc (f : Nat → Rat) (c : Rat) : Nat → Rat := fun i => f i * c
def ad (f g : Nat → Rat) : Nat → Rat := fun i => f i + g i
theorem cm_sc (f g : Nat → Rat) (c : Rat) : cmul (sc f c) g = sc (cmul f g) c := by
 rw [cm_comm]
 exact funext (fun i => by show cmul g (fun i => f i * c) i = cmul f g i * c; rw [cmul_scale,cmul_comm g f])
theorem cm_scR (f g : Nat → Rat) (c : Rat) : cmul f (sc g c) = sc (cmul f g) c := funext (fun i => cmul_scale f g c i)
theorem cm_adR (f g h : Nat → Rat) : cmul f (ad g h) = ad (cmul f g) (cmul f h) := funext (fun i => cmul_add f g h i)
theorem dq_mul (f g : Nat → Rat) : dQ (cmul f g) = ad (cmul (dQ f) g) (cmul f (dQ g)) := funext (dQ_mul f g)
theorem dq_lnr (t : Rat) : dQ (lnr t) = cone := funext (fun i => by
 show dQ (co 2 (lin t)) i = cone i
 rw [lin_slope,Rat.mul_one])
theorem dq_lp (t : Rat) : ∀ k,dQ (lp t (k + 1)) = sc (lp t k) (((k + 1 : Nat) : Int) : Rat)
 | 0 => by
  show dQ (cmul cone (lnr t)) = sc cone _
  rw [show cmul cone (lnr t) = lnr t from funext (cmul_one _),dq_lnr]
  exact funext (fun i => by show cone i = cone i * (((0 + 1 : Nat) : Int) : Rat); rw [show (((0 + 1 : Nat) : Int) : Rat) = 1 from rfl,Rat.mul_one])
 | k + 1 => by
  show dQ (cmul (lp t (k + 1)) (lnr t)) = _
  rw [dq_mul,dq_lp t k,dq_lnr,cm_one,cm_sc]
  exact funext (fun i => by
   show cmul (lp t k) (lnr t) i * (((k + 1 : Nat) : Int) : Rat) + lp t (k + 1) i = lp t (k + 1) i * (((k + 1 + 1 : Nat) : Int) : Rat)
   rw [show ((k + 1 + 1 : Nat) : Int) = ((k + 1 : Nat) : Int) + 1 by omega,Rat.intCast_add,show ((1 : Int) : Rat) = 1 from rfl]
   show lp t (k + 1) i * _ + lp t (k + 1) i = _
   grind)
/-- All factors, each with one more than g of it; what is left over; and the slope without that. -/
def pall (s : Nat → Rat) (g : Nat → Nat) : Nat → (Nat → Rat)
 | 0 => w3
 | m + 1 => cmul (pall s g m) (lp (s m) (g m + 1))
def pover (s : Nat → Rat) (g : Nat → Nat) : Nat → (Nat → Rat)
 | 0 => cone
 | m + 1 => cmul (pover s g m) (lp (s m) (g m))
def pslo (s : Nat → Rat) (g : Nat → Nat) : Nat → (Nat → Rat)
 | 0 => dQ w3
 | m + 1 => ad (cmul (pslo s g m) (lnr (s m))) (sc (prd s m) (((g m + 1 : Nat) : Int) : Rat))
theorem swap4 (a b c d : Nat → Rat) : cmul (cmul a b) (cmul c d) = cmul (cmul a c) (cmul b d) := by
 rw [cm_assoc,cm_assoc,← cm_assoc b c d,cm_comm b c,cm_assoc c b d]
theorem pall_over (s : Nat → Rat) (g : Nat → Nat) : ∀ m,pall s g m = cmul (pover s g m) (prd s m)
 | 0 => (funext (cmul_one w3)).symm
 | m + 1 => by
  show cmul (pall s g m) (cmul (lp (s m) (g m)) (lnr (s m))) = cmul (cmul (pover s g m) (lp (s m) (g m))) (cmul (prd s m) (lnr (s m)))
  rw [pall_over s g m,swap4]
theorem pall_slope (s : Nat → Rat) (g : Nat → Nat) : ∀ m,dQ (pall s g m) = cmul (pover s g m) (pslo s g m)
 | 0 => (funext (cmul_one (dQ w3))).symm
 | m + 1 => by
  show dQ (cmul (pall s g m) (lp (s m) (g m + 1))) = cmul (cmul (pover s g m) (lp (s m) (g m))) (ad (cmul (pslo s g m) (lnr (s m))) (sc (prd s m) _))
  rw [dq_mul,dq_lp,pall_slope s g m,cm_adR,cm_scR,cm_scR,← swap4,pall_over s g m]
  congr 2
  rw [cm_assoc,cm_comm (prd s m),← cm_assoc]
theorem Bz.sc {f g : Nat → Rat} {c : Rat} (hc : c ≠ 0) (h : Bz f g) : Bz f (sc g c) := by
 obtain ⟨u,v,h1,h2,e⟩ := h
 refine ⟨u,Go.Proofs.YtieeneaebjihlaaGreatDoor.sc v c⁻¹,h1,h2.scale _,fun i => ?_⟩
 rw [cm_sc,cm_scR]
 show cmul u f i + cmul v g i * c * c⁻¹ = cone i
 rw [Rat.mul_assoc,Rat.mul_inv_cancel c hc,Rat.mul_one]
 exact e i
theorem lnr_prd {s : Nat → Rat} {m : Nat} (h : ∀ i j,i < m + 1 → j < m + 1 → s i = s j → i = j) : Bz (lnr (s m)) (prd s m) := by
 rw [← co_all_of (prd_far s m)]
 refine Bz.line ?_
 rw [prd_ev]
 intro e
 rcases Rat.mul_eq_zero.1 e with g | g
 ·have := sq_pos (s m); grind
 ·obtain ⟨j,hj,e⟩ := prodR_zero m g
  have := h m j (by omega) (by omega) e
  omega
theorem pslo_fins (s : Nat → Rat) (g : Nat → Nat) : ∀ m,Fins (pslo s g m)
 | 0 => Fins.dQ (prd_fins s 0)
 | m + 1 => ((pslo_fins s g m).mul (Fins.co _ _)).add ((prd_fins s m).scale _)
/-- Nothing in common but what is left over. -/
theorem pslo_bz (s : Nat → Rat) (g : Nat → Nat) : ∀ m,(∀ i j,i < m → j < m → s i = s j → i = j) → Bz (prd s m) (pslo s g m)
 | 0,_ => w3_slope
 | m + 1,h => by
  have ih := pslo_bz s g m (fun i j a b => h i j (by omega) (by omega))
  have hl := lnr_prd h
  have hc : (((g m + 1 : Nat) : Int) : Rat) ≠ 0 := fun e => by
   have := Rat.intCast_lt_intCast.2 (show (0 : Int) < ((g m + 1 : Nat) : Int) by omega)
   rw [e] at this
   exact absurd this (by decide +kernel)
  refine Bz.mul (a := prd s m) (b := lnr (s m)) ?_ ?_ (Fins.co _ _)
  ·refine Bz.rest (h := Go.Proofs.YtieeneaebjihlaaGreatDoor.sc cone (((g m + 1 : Nat) : Int) : Rat)) (Fins.scale ⟨1,fun i hi => by unfold cone; rw [if_neg (by omega)]⟩ _) (r := cmul (pslo s g m) (lnr (s m))) (fun i => ?_) (Bz.symm (Bz.mul ih.symm hl (Fins.co _ _)))
   rw [cm_sc,show cmul cone (prd s m) = prd s m from funext (cmul_one _)]
   exact Rat.add_comm _ _
  ·exact Bz.rest (h := pslo s g m) (pslo_fins s g m) (r := Go.Proofs.YtieeneaebjihlaaGreatDoor.sc (prd s m) _) (fun i => rfl) (Bz.sc hc hl)

theorem over_dv {D S E d : Nat → Rat} (b : Bz S E) (h1 : Dv d (cmul D S)) (h2 : Dv d (cmul D E)) : Dv d D := by
 obtain ⟨u,v,⟨N,f1⟩,⟨M,f2⟩,e⟩ := b
 refine ((h1.mul f1).add (h2.mul f2)).congr (fun i => ?_)
 show cmul u (cmul D S) i + cmul v (cmul D E) i = D i
 rw [← cm_assoc u D S,cm_comm u D,cm_assoc D u S,← cm_assoc v D E,cm_comm v D,cm_assoc D v E,← cmul_add,show (fun i => cmul u S i + cmul v E i) = cone from funext e,cm_one]
theorem ChA.dv_all {n : Nat} {q : Nat → Rat} {T : Nat} {N : Nat → Nat} {C : Nat → Nat → Rat} (h : ChA n q T N C) {d : Nat → Rat} (h0 : Dv d (co (N 0) (C 0))) (h1 : Dv d (co (N 1) (C 1))) : ∀ t,t + 1 < T → Dv d (co (N t) (C t)) ∧ Dv d (co (N (t + 1)) (C (t + 1)))
 | 0,_ => ⟨h0,h1⟩
 | t + 1,ht => by
  obtain ⟨a,b⟩ := h.dv_all h0 h1 t (by omega)
  refine ⟨b,?_⟩
  have r := (Dv_div (h.pos (t + 1) (by omega)) (h.top (t + 1) (by omega)) b).1 a
  have hl := h.len t (by omega)
  have hc := co_trim (divR (C (t + 1)) (N (t + 1) - 1) (N t - (N (t + 1) - 1)) (C t)) (min (N t) (N (t + 1) - 1))
  rw [hl] at hc
  refine (r.scale (-1)).congr (fun i => ?_)
  rw [← hc i]
  have hn := h.neg t (by omega) i
  rw [show ((-1 : Int) : Rat) = -1 from rfl] at hn
  show co (N (t + 2)) _ i * -1 = co (N (t + 2)) (C (t + 2)) i
  unfold co
  by_cases g : i < N (t + 2)
  ·rw [if_pos g,if_pos g,hn]
  ·rw [if_neg g,if_neg g]; grind
/-- The last of the chain of powers of distinct factors, and what is left over: each divides the other. -/
theorem ChA.last_over {n : Nat} {q : Nat → Rat} {T : Nat} {N : Nat → Nat} {C : Nat → Nat → Rat} (h : ChA n q T N C) (h2 : 2 ≤ T) {s : Nat → Rat} {g : Nat → Nat} {m : Nat} (hs : ∀ i j,i < m → j < m → s i = s j → i = j) {c : Rat} (hc : c ≠ 0) (e0 : ∀ i,co (N 0) (C 0) i = pall s g m i * c) (e1 : ∀ i,co (N 1) (C 1) i = dQ (pall s g m) i * c) (fo : Fins (pover s g m)) : Dv (co (N (T - 1)) (C (T - 1))) (pover s g m) ∧ Dv (pover s g m) (co (N (T - 1)) (C (T - 1))) := by
 obtain ⟨d1,d2⟩ := h.last_dv (T - 1) 0 (by omega)
 have d2 := d2 (by omega)
 have back : ∀ (f : Nat → Rat) (x : Nat → Rat),(∀ i,x i = f i * c) → ∀ d,Dv d x → Dv d f := fun f x e d k => (k.scale c⁻¹).congr (fun i => by rw [e i,Rat.mul_assoc,Rat.mul_inv_cancel c hc,Rat.mul_one])
 have p1 := back _ _ e0 _ d1
 have p2 := back _ _ e1 _ d2
 rw [pall_over] at p1
 rw [pall_slope] at p2
 refine ⟨over_dv (pslo_bz s g m hs) p1 p2,?_⟩
 have a1 : Dv (pover s g m) (co (N 0) (C 0)) := by
  obtain ⟨K,hK⟩ := prd_fins s m
  refine ((Dv.times (d := pover s g m) hK).scale c).congr (fun i => ?_)
  rw [e0 i,pall_over,cmul_comm]
 have a2 : Dv (pover s g m) (co (N 1) (C 1)) := by
  obtain ⟨K,hK⟩ := pslo_fins s g m
  refine ((Dv.times (d := pover s g m) hK).scale c).congr (fun i => ?_)
  rw [e1 i,pall_slope,cmul_comm]
 obtain ⟨_,r⟩ := h.dv_all a1 a2 (T - 2) (by omega)
 rw [show T - 2 + 1 = T - 1 by omega] at r
 exact r

end Go.Proofs.YtieeneaebjihlaaGreatDoor

namespace Go.Proofs.YtieeneaebjihlaaGreatDoor
open Go.RowKit
set_option linter.unusedVariables false
set_option linter.unusedSimpArgs false

theorem IForm.one {h : Nat} (hh : 1 ≤ h) : IForm 1 (fun _ => (1 : Rat)) h := ⟨1,fun _ => 1,by decide,Nat.le_trans nlw_one hh,fun i hi => ⟨by show (1 : Rat) * ((1 : Int) : Rat) = ((1 : Int) : Rat); decide +kernel,Nat.le_trans nlw_one hh⟩⟩
theorem IForm.none {q : Nat → Rat} {h : Nat} (hh : 1 ≤ h) : IForm 0 q h := ⟨1,fun _ => 0,by decide,Nat.le_trans nlw_one hh,fun i hi => by omega⟩
/-- Two monic ones that divide each other are one. -/
theorem mono_len {l1 l2 : Nat} {P1 P2 : Nat → Rat} (h1 : 0 < l1) (h2 : 0 < l2) (m1 : P1 (l1 - 1) = 1) (m2 : P2 (l2 - 1) = 1) (d : Dv (co l1 P1) (co l2 P2)) : l1 ≤ l2 := by
 rcases Nat.lt_or_ge l2 l1 with h | h
 ·have hz := Dv.short h1 (by rw [m1]; decide) d (fun i hi => co_ge (by omega)) (l2 - 1)
  rw [co_lt (by omega),m2] at hz
  exact absurd hz (by decide)
 ·exact h
theorem mono_eq {l1 l2 : Nat} {P1 P2 : Nat → Rat} (h1 : 0 < l1) (h2 : 0 < l2) (m1 : P1 (l1 - 1) = 1) (m2 : P2 (l2 - 1) = 1) (d : Dv (co l1 P1) (co l2 P2)) (d' : Dv (co l2 P2) (co l1 P1)) (i : Nat) : co l1 P1 i = co l2 P2 i := by
 have a := mono_len h1 h2 m1 m2 d
 have b := mono_len h2 h1 m2 m1 d'
 obtain rfl : l1 = l2 := by omega
 have hd : Dv (co l1 P1) (fun i => co l1 P2 i + co l1 P1 i * (-1)) := d.add ((Dv.self _).scale (-1))
 have hz := Dv.short h1 (by rw [m1]; decide) hd (fun j hj => by
  show co l1 P2 j + co l1 P1 j * (-1) = 0
  by_cases e : j < l1
  ·obtain rfl : j = l1 - 1 := by omega
   rw [co_lt e,co_lt e,m1,m2]; decide +kernel
  ·rw [co_ge e,co_ge e]; decide +kernel) i
 have hz2 : co l1 P2 i + co l1 P1 i * (-1) = 0 := hz
 grind
theorem frow_zero (w : World) (a : Option Addr) (c : Nat) (q : Nat → Rat) (hc : c ≤ 9223372036854775807) : FRow w (.slice a 0 c) 0 q := ⟨fun _ _ => .bool false,⟨a,c,rfl,Nat.zero_le _,hc,fun h => by omega⟩,fun i hi => by omega⟩
def lz : Nat → Nat
 | 0 => 289
 | 1 => 119
 | 2 => 49
 | 3 => 19
 | _ => 9
def fz : Nat → Nat
 | 0 => 2
 | 1 => 2
 | t + 2 => fz t + fz (t + 1) + 831
theorem lz_le : ∀ x,x < 5 → lz x ≤ 289 ∧ 9 ≤ lz x ∧ (0 < x → lz x ≤ 119) := by decide
theorem lz_one : ∀ la,la < 5 → ∀ lb,lb < 5 → 0 < lb → 9 ≤ lz lb ∧ 9 + (la - (lb - 1)) * 10 ≤ lz (lb - 1) ∧ (la - (lb - 1)) * (9 + (la - (lb - 1)) * 10 + 9) + 1 ≤ 820 := by decide
theorem lz_two : ∀ la,la < 5 → ∀ lb,lb < la → 0 < lb → lz (la - 1) ≤ lz lb ∧ lz la + (la - (lb - 1)) * (lz (la - 1) + 1) ≤ lz (lb - 1) ∧ (la - (lb - 1)) * (lz la + (la - (lb - 1)) * (lz (la - 1) + 1) + lz (la - 1)) + 1 ≤ 820 := by decide
/-- How the lengths stand between two rounds. -/
def LSt (t lr ls hr hs lx lu ly lv : Nat) : Prop := (t = 0 ∧ lr ≤ 4 ∧ ls ≤ 4 ∧ hr = 9 ∧ hs = 9 ∧ lx ≤ 1 ∧ lu ≤ 1 ∧ ly ≤ 1 ∧ lv ≤ 1) ∨ (0 < t ∧ t + lr ≤ 5 ∧ ls < lr ∧ hr = lz lr ∧ hs = lz (lr - 1) ∧ lx ≤ 5 - lr ∧ lu ≤ 5 - lr ∧ ly ≤ 5 - lr ∧ lv ≤ 5 - lr)
theorem LSt.all {t lr ls hr hs lx lu ly lv : Nat} (h : LSt t lr ls hr hs lx lu ly lv) : t ≤ 4 ∧ lr ≤ 4 ∧ ls ≤ 4 ∧ 9 ≤ hr ∧ 9 ≤ hs ∧ hs ≤ 289 ∧ hr ≤ 289 ∧ lx ≤ 5 ∧ lu ≤ 5 ∧ ly ≤ 5 ∧ lv ≤ 5 := by
 rcases h with ⟨rfl,h1,h2,rfl,rfl,h3⟩ | ⟨h0,h1,h2,rfl,rfl,h3⟩
 ·omega
 ·have a := lz_le lr (by omega)
  have b := lz_le (lr - 1) (by omega)
  omega
theorem LSt.next {t lr ls hr hs lx lu ly lv : Nat} (h : LSt t lr ls hr hs lx lu ly lv) (h0 : 0 < ls) : t ≤ 3 ∧ hs ≤ lz ls ∧ hr + (lr - (ls - 1)) * (hs + 1) ≤ lz (ls - 1) ∧ (lr - (ls - 1)) * (hr + (lr - (ls - 1)) * (hs + 1) + hs) + 1 ≤ 820 ∧ hs ≤ 119 ∧
  ∀ lt lx' lv',lt < ls → (lx' ≤ max lx (lr - (ls - 1) + lu - 1) ∨ lx' ≤ lx) → (lv' ≤ max ly (lr - (ls - 1) + lv - 1) ∨ lv' ≤ ly) → LSt (t + 1) ls lt (lz ls) (lz (ls - 1)) lu lx' lv lv' := by
 rcases h with ⟨rfl,h1,h2,rfl,rfl,h3⟩ | ⟨h1,h2,h3,rfl,rfl,h4⟩
 ·have a := lz_one lr (by omega) ls (by omega) h0
  exact ⟨by omega,a.1,a.2.1,a.2.2,by omega,fun lt lx' lv' b c d => Or.inr ⟨by omega,by omega,b,rfl,rfl,by omega,by omega,by omega,by omega⟩⟩
 ·have a := lz_two lr (by omega) ls h3 h0
  have b := lz_le (lr - 1) (by omega)
  exact ⟨by omega,a.1,a.2.1,a.2.2,b.2.2 (by omega),fun lt lx' lv' b c d => Or.inr ⟨by omega,by omega,b,rfl,rfl,by omega,by omega,by omega,by omega⟩⟩


end Go.Proofs.YtieeneaebjihlaaGreatDoor

namespace Go.Proofs.YtieeneaebjihlaaGreatDoor
set_option linter.unusedVariables false

def upg (g : Nat → Nat) (j : Nat) : Nat → Nat := fun i => if i = j then g i + 1 else g i
theorem pall_congr {s s' : Nat → Rat} {g g' : Nat → Nat} : ∀ d,(∀ j,j < d → s j = s' j ∧ g j = g' j) → pall s g d = pall s' g' d
 | 0,_ => rfl
 | d + 1,h => by
  show cmul (pall s g d) (lp (s d) (g d + 1)) = cmul (pall s' g' d) (lp (s' d) (g' d + 1))
  rw [pall_congr d (fun j hj => h j (by omega)),(h d (by omega)).1,(h d (by omega)).2]
theorem pall_more (s : Nat → Rat) (g : Nat → Nat) (j : Nat) : ∀ d,j < d → cmul (pall s g d) (lnr (s j)) = pall s (upg g j) d
 | 0,h => by omega
 | d + 1,h => by
  show cmul (cmul (pall s g d) (lp (s d) (g d + 1))) (lnr (s j)) = cmul (pall s (upg g j) d) (lp (s d) (upg g j d + 1))
  by_cases e : j = d
  ·subst e
   have h1 : pall s (upg g j) j = pall s g j := pall_congr j (fun i hi => ⟨rfl,if_neg (by omega)⟩)
   have h2 : upg g j j = g j + 1 := if_pos rfl
   rw [h1,h2,cm_assoc]
   rfl
  ·have h2 : upg g j d = g d := if_neg (fun h => e h.symm)
   rw [cm_assoc,cm_comm (lp (s d) (g d + 1)),← cm_assoc,pall_more s g j d (by omega),h2]
/-- The product of a list's factors, some of them twice. -/
def pl (r : Nat → Rat) (two : Nat → Bool) : Nat → (Nat → Rat)
 | 0 => w3
 | m + 1 => if two m = true then cmul (cmul (pl r two m) (lnr (r m))) (lnr (r m)) else cmul (pl r two m) (lnr (r m))
theorem listed (r : Nat → Rat) (two : Nat → Bool) (x y : Rat) (seen : Nat → Bool) : ∀ m,(∀ i,i < m → (seen i = true ↔ ∃ k,k < i ∧ r k = r i)) → ∃ (d : Nat) (s : Nat → Rat) (g : Nat → Nat),d ≤ m ∧ (∀ i j,i < d → j < d → s i = s j → i = j) ∧ (∀ i,i < m → ∃ j,j < d ∧ s j = r i) ∧ (∀ j,j < d → ∃ i,i < m ∧ s j = r i) ∧ rcnt s x y d = dcnt r x y seen m ∧ pl r two m = pall s g d
 | 0,_ => ⟨0,r,fun _ => 0,by omega,fun i j hi => by omega,fun i hi => by omega,fun j hj => by omega,rfl,rfl⟩
 | m + 1,h => by
  obtain ⟨d,s,g,h1,h2,h3,h4,h5,h6⟩ := listed r two x y seen m (fun i hi => h i (by omega))
  have hm := h m (by omega)
  by_cases gs : seen m = true
  ·obtain ⟨k,hk,e⟩ := hm.1 gs
   obtain ⟨jm,hjm,ejm⟩ := h3 k hk
   have esj : s jm = r m := ejm.trans e
   refine ⟨d,s,if two m = true then upg (upg g jm) jm else upg g jm,by omega,h2,fun i hi => ?_,fun j hj => ?_,?_,?_⟩
   ·by_cases e' : i = m
    ·rw [e',← e]; exact h3 k hk
    ·exact h3 i (by omega)
   ·obtain ⟨i,hi,e'⟩ := h4 j hj
    exact ⟨i,by omega,e'⟩
   ·show _ = dcnt r x y seen m + (if seen m = false ∧ x < r m ∧ r m ≤ y then 1 else 0)
    rw [if_neg (fun a => by rw [gs] at a; exact absurd a.1 (by decide)),h5]
    rfl
   ·show (if two m = true then cmul (cmul (pl r two m) (lnr (r m))) (lnr (r m)) else cmul (pl r two m) (lnr (r m))) = _
    rw [h6,← esj,pall_more s g jm d hjm]
    by_cases t : two m = true
    ·rw [if_pos t,if_pos t,pall_more s _ jm d hjm]
    ·rw [if_neg t,if_neg t]
  ·have hf : ∀ k,k < m → r k ≠ r m := fun k hk e => gs (hm.2 ⟨k,hk,e⟩)
   have gf : seen m = false := by cases e : seen m; rfl; exact absurd e gs
   obtain ⟨s',hs'⟩ : ∃ s' : Nat → Rat,s' = fun j => if j < d then s j else r m := ⟨_,rfl⟩
   have a1 : ∀ j,j < d → s' j = s j := fun j hj => by rw [hs']; exact if_pos hj
   have a2 : s' d = r m := by rw [hs']; exact if_neg (by omega)
   obtain ⟨g',hg'⟩ : ∃ g' : Nat → Nat,g' = fun j => if j < d then g j else if two m = true then 1 else 0 := ⟨_,rfl⟩
   have b1 : ∀ j,j < d → g' j = g j := fun j hj => by rw [hg']; exact if_pos hj
   have b2 : g' d = if two m = true then 1 else 0 := by rw [hg']; exact if_neg (by omega)
   have hc : ∀ k,k ≤ d → rcnt s' x y k = rcnt s x y k := fun k => by
    induction k with
    | zero => intro _; rfl
    | succ k ih =>
     intro hk
     show rcnt s' x y k + (if x < s' k ∧ s' k ≤ y then 1 else 0) = rcnt s x y k + (if x < s k ∧ s k ≤ y then 1 else 0)
     rw [ih (by omega),a1 k (by omega)]
   refine ⟨d + 1,s',g',by omega,fun i j hi hj e => ?_,fun i hi => ?_,fun j hj => ?_,?_,?_⟩
   ·by_cases ei : i = d
    ·by_cases ej : j = d
     ·omega
     ·rw [ei,a2,a1 j (by omega)] at e
      obtain ⟨k,hk,e'⟩ := h4 j (by omega)
      exact absurd (e'.symm.trans e.symm) (hf k hk)
    ·by_cases ej : j = d
     ·rw [ej,a2,a1 i (by omega)] at e
      obtain ⟨k,hk,e'⟩ := h4 i (by omega)
      exact absurd (e'.symm.trans e) (hf k hk)
     ·rw [a1 i (by omega),a1 j (by omega)] at e
      exact h2 i j (by omega) (by omega) e
   ·by_cases e' : i = m
    ·exact ⟨d,by omega,by rw [a2,e']⟩
    ·obtain ⟨j,hj,e⟩ := h3 i (by omega)
     exact ⟨j,by omega,by rw [a1 j hj]; exact e⟩
   ·by_cases e' : j = d
    ·exact ⟨m,by omega,by rw [e',a2]⟩
    ·obtain ⟨i,hi,e⟩ := h4 j (by omega)
     exact ⟨i,by omega,by rw [a1 j (by omega)]; exact e⟩
   ·show rcnt s' x y d + (if x < s' d ∧ s' d ≤ y then 1 else 0) = dcnt r x y seen m + (if seen m = false ∧ x < r m ∧ r m ≤ y then 1 else 0)
    rw [hc d (by omega),h5,a2]
    congr 1
    by_cases k : x < r m ∧ r m ≤ y
    ·rw [if_pos k,if_pos ⟨gf,k⟩]
    ·rw [if_neg k,if_neg (fun a => k a.2)]
   ·show (if two m = true then cmul (cmul (pl r two m) (lnr (r m))) (lnr (r m)) else cmul (pl r two m) (lnr (r m))) = cmul (pall s' g' d) (lp (s' d) (g' d + 1))
    have e0 : pall s' g' d = pall s g d := pall_congr d (fun j hj => ⟨a1 j hj,b1 j hj⟩)
    rw [h6,e0,a2,b2]
    have l1 : lp (r m) 1 = lnr (r m) := funext (cmul_one (lnr (r m)))
    by_cases t : two m = true
    ·rw [if_pos t,if_pos t,cm_assoc]
     show _ = cmul (pall s g d) (cmul (lp (r m) 1) (lnr (r m)))
     rw [l1]
    ·rw [if_neg t,if_neg t]
     show _ = cmul (pall s g d) (lp (r m) 1)
     rw [l1]
/-- A polynomial of this length with this at its top. -/
structure PolyL (f : Nat → Rat) (l : Nat) (t : Rat) : Prop where
 pos : 0 < l
 far : ∀ i,l ≤ i → f i = 0
 top : f (l - 1) = t
theorem PolyL.mul {f g : Nat → Rat} {l k : Nat} {t u : Rat} (hf : PolyL f l t) (hg : PolyL g k u) : PolyL (cmul f g) (l + k - 1) (t * u) := by
 have p1 := hf.pos
 have p2 := hg.pos
 refine ⟨by omega,fun i hi => sumq_zero _ _ (fun j _ => ?_),?_⟩
 ·by_cases h : j < l
  ·rw [hg.far (i - j) (by omega),Rat.mul_zero]
  ·rw [hf.far j (by omega),Rat.zero_mul]
 ·have e := cmul_top (lg := l) (g := f) (k := g) (t := k - 1) p1 (fun i hi => hg.far i (by omega))
  rw [co_all_of hf.far,hf.top,hg.top,show l - 1 + (k - 1) = l + k - 1 - 1 by omega] at e
  exact e
theorem PolyL.lnr (t : Rat) : PolyL (lnr t) 2 1 := ⟨by omega,fun i hi => co_ge (by omega),by show co 2 (lin t) 1 = 1; rw [co_lt (by omega)]; rfl⟩
theorem PolyL.cone : PolyL cone 1 1 := ⟨by omega,fun i hi => by unfold Go.Proofs.YtieeneaebjihlaaGreatDoor.cone; rw [if_neg (by omega)],rfl⟩
theorem PolyL.w3 : PolyL w3 3 3 := ⟨by omega,fun i hi => by unfold Go.Proofs.YtieeneaebjihlaaGreatDoor.w3; rw [if_neg (by omega),if_neg (by omega)],rfl⟩
theorem PolyL.lp (t : Rat) : ∀ k,PolyL (lp t k) (k + 1) 1
 | 0 => PolyL.cone
 | k + 1 => by
  have := (PolyL.lp t k).mul (PolyL.lnr t)
  rw [Rat.one_mul] at this
  exact this
def gsum (g : Nat → Nat) : Nat → Nat
 | 0 => 0
 | m + 1 => gsum g m + g m
theorem PolyL.pover (s : Nat → Rat) (g : Nat → Nat) : ∀ m,PolyL (pover s g m) (gsum g m + 1) 1
 | 0 => PolyL.cone
 | m + 1 => by
  have := (PolyL.pover s g m).mul (PolyL.lp (s m) (g m))
  rw [Rat.one_mul,show gsum g m + 1 + (g m + 1) - 1 = gsum g (m + 1) + 1 by show _ = gsum g m + g m + 1; omega] at this
  exact this
theorem PolyL.prd (s : Nat → Rat) : ∀ m,PolyL (prd s m) (m + 3) 3
 | 0 => PolyL.w3
 | m + 1 => by
  have := (PolyL.prd s m).mul (PolyL.lnr (s m))
  rw [Rat.mul_one,show m + 3 + 2 - 1 = m + 1 + 3 by omega] at this
  exact this
theorem PolyL.sc {f : Nat → Rat} {l : Nat} {t : Rat} (h : PolyL f l t) (c : Rat) : PolyL (sc f c) l (t * c) := ⟨h.pos,fun i hi => by show f i * c = 0; rw [h.far i hi,Rat.zero_mul],by show f (l - 1) * c = _; rw [h.top]⟩
theorem PolyL.trim {f : Nat → Rat} {l : Nat} {t : Rat} (h : PolyL f l t) (ht : t ≠ 0) {n : Nat} (hn : l ≤ n) : trimN f n = l := trim_len f n l hn (fun i h1 _ => h.far i h1) (fun _ => by rw [h.top]; exact ht)
/-- A factor may be taken off both sides. -/
theorem cm_cancel {d a b : Nat → Rat} {l : Nat} {t : Rat} (hd : PolyL d l t) (ht : t ≠ 0) (fa : Fins a) (fb : Fins b) (h : cmul d a = cmul d b) : a = b := by
 obtain ⟨N,hN⟩ := fa
 obtain ⟨M,hM⟩ := fb
 have hk : ∀ i,N + M ≤ i → a i + b i * (-1) = 0 := fun i hi => by rw [hN i (by omega),hM i (by omega)]; decide +kernel
 have hz : ∀ p,cmul d (fun i => a i + b i * (-1)) p = 0 := fun p => by
  rw [cmul_add,cmul_scale,h]
  grind
 have z0 : trimN (fun i => a i + b i * (-1)) (N + M) = 0 := by
  rcases Nat.eq_zero_or_pos (trimN (fun i => a i + b i * (-1)) (N + M)) with e | e
  ·exact e
  ·have tp := trimN_top _ _ e
   have e2 := cmul_top (lg := l) (g := d) (k := fun i => a i + b i * (-1)) (t := trimN (fun i => a i + b i * (-1)) (N + M) - 1) hd.pos (fun i hi => by
    by_cases hin : i < N + M
    ·exact trimN_zero (fun i => a i + b i * (-1)) (N + M) i (by omega) hin
    ·exact hk i (by omega))
   rw [co_all_of hd.far,hz,hd.top] at e2
   rcases Rat.mul_eq_zero.1 e2.symm with g | g
   ·exact absurd g ht
   ·exact absurd g tp
 refine funext (fun i => ?_)
 have : a i + b i * (-1) = 0 := by
  by_cases hin : i < N + M
  ·exact trimN_zero (fun i => a i + b i * (-1)) (N + M) i (by omega) hin
  ·exact hk i (by omega)
 grind
theorem cm_lnr_zero (q : Nat → Rat) (t : Rat) : cmul q (lnr t) 0 = q 0 * (-t) := by
 show (0 : Rat) + q 0 * lnr t (0 - 0) = _
 rw [Rat.zero_add]
 rfl
theorem cm_lnr_succ (q : Nat → Rat) (t : Rat) (i : Nat) : cmul q (lnr t) (i + 1) = q i + q (i + 1) * (-t) := by
 show sumq (fun j => q j * lnr t (i + 1 - j)) i + q i * lnr t (i + 1 - i) + q (i + 1) * lnr t (i + 1 - (i + 1)) = _
 rw [sumq_zero _ _ (fun j hj => by rw [(PolyL.lnr t).far (i + 1 - j) (by omega),Rat.mul_zero]),show i + 1 - i = 1 by omega,Nat.sub_self,show lnr t 1 = 1 from rfl,show lnr t 0 = -t from rfl]
 grind
/-- How long the numbers become. -/
theorem IForm.lnr {n h : Nat} {q : Nat → Rat} {t : Rat} (f : IForm n q h) (hz : q n = 0) (ht : qsz t ≤ 2) : IForm (n + 1) (cmul q (lnr t)) (h + 3) := by
 obtain ⟨D,z,h1,h2,h3⟩ := f
 have hq : t * ((t.den : Int) : Rat) = (t.num : Rat) := by
  have h := mkRat_mul_den t.num t.den (Nat.pos_of_ne_zero t.den_nz)
  rw [Rat.mkRat_self] at h
  rw [Rat.intCast_natCast]; exact h
 have hdn : nl W32 ((t.den : Int)).natAbs ≤ 2 := by rw [Int.natAbs_natCast]; exact Nat.le_trans (qsz_den t) ht
 have hnn : nl W32 t.num.natAbs ≤ 2 := Nat.le_trans (qsz_num t) ht
 have h3' : ∀ i,i ≤ n → q i * (D : Rat) = ((if i < n then z i else 0 : Int) : Rat) ∧ nl W32 (if i < n then z i else 0).natAbs ≤ h := fun i hi => by
  by_cases g : i < n
  ·rw [if_pos g]; exact h3 i g
  ·rw [if_neg g,show i = n by omega,hz,Rat.zero_mul]
   exact ⟨rfl,by show nl W32 0 ≤ h; rw [show nl W32 0 = 0 by decide]; omega⟩
 refine ⟨D * (t.den : Int),fun i => match i with
  | 0 => -((if 0 < n then z 0 else 0) * t.num)
  | k + 1 => (if k < n then z k else 0) * (t.den : Int) + -((if k + 1 < n then z (k + 1) else 0) * t.num),Int.mul_ne_zero h1 (by have := t.den_nz; omega),nlz_mul h2 hdn (by omega),fun i hi => ?_⟩
 cases i with
 | zero =>
  refine ⟨?_,nlz_neg (nlz_mul (h3' 0 (by omega)).2 hnn (by omega))⟩
  show cmul q (Go.Proofs.YtieeneaebjihlaaGreatDoor.lnr t) 0 * _ = ((-((if 0 < n then z 0 else 0) * t.num) : Int) : Rat)
  rw [cm_lnr_zero,Rat.intCast_neg,Rat.intCast_mul,Rat.intCast_mul,← (h3' 0 (by omega)).1,← hq]
  grind
 | succ k =>
  refine ⟨?_,nlz_add (a := h + 2) (b := h + 2) (nlz_mul (h3' k (by omega)).2 hdn (by omega)) (nlz_neg (nlz_mul (h3' (k + 1) (by omega)).2 hnn (by omega))) (by omega) (by omega)⟩
  show cmul q (Go.Proofs.YtieeneaebjihlaaGreatDoor.lnr t) (k + 1) * _ = (((if k < n then z k else 0) * (t.den : Int) + -((if k + 1 < n then z (k + 1) else 0) * t.num) : Int) : Rat)
  rw [cm_lnr_succ,Rat.intCast_add,Rat.intCast_neg,Rat.intCast_mul,Rat.intCast_mul,Rat.intCast_mul,← (h3' k (by omega)).1,← (h3' (k + 1) (by omega)).1,← hq]
  grind

def vw : Nat → Nat
 | 0 => 33431
 | 1 => 13847
 | 2 => 5735
 | 3 => 2375
 | 4 => 983
 | 5 => 407
 | 6 => 167
 | 7 => 71
 | _ => 23
def rw9 : Nat → Nat
 | 0 => 16723
 | 1 => 16723
 | 2 => 6908
 | 3 => 2876
 | 4 => 1173
 | 5 => 501
 | 6 => 190
 | 7 => 94
 | _ => 23
def jz : Nat → Nat
 | 0 => 0
 | 1 => 0
 | 2 => 1
 | 3 => 2
 | 4 => 2
 | 9 => 4
 | _ => 3
theorem vw_two : ∀ la,la < 10 → ∀ lb,lb < la → 0 < lb → vw (la - 1) ≤ vw lb ∧ vw la + (la - (lb - 1)) * (vw (la - 1) + 1) ≤ vw (lb - 1) := by decide
theorem vw_le : ∀ x,x < 10 → vw x ≤ 33431 ∧ 23 ≤ vw x ∧ (0 < x → vw x ≤ 13847) := by decide
theorem vw_down : ∀ b,b < 10 → ∀ a,a < b + 1 → vw b ≤ vw a := by decide
theorem rw9_two : ∀ b,b < 10 → ∀ a,a < b → a + 2 ≤ b → 0 < a → vw a + rw9 b ≤ rw9 a := by decide
theorem rw9_le : ∀ x,x < 10 → rw9 x ≤ 16723 ∧ 23 ≤ rw9 x := by decide
theorem jz_all : ∀ x,x < 10 → x ≤ 2 ^ jz x ∧ vsz (jz x) (vw x) 2 ≤ 40000 ∧ (0 < x → x * (vw x + 2 * x + 2) + 1 ≤ 100000) := by decide
/-- What stands at each place of the chain. -/
structure Ch9 (s : Two) : Prop where
 lt : s.nb < s.na ∨ (s.na = 0 ∧ s.nb = 0)
 nine : s.na ≤ 9
 fa : IForm s.na s.qa (vw s.na)
 fb : IForm s.nb s.qb (vw (s.na - 1))
 ta : 0 < s.na → s.qa (s.na - 1) = 1
 tb : 0 < s.nb → s.qb (s.nb - 1) = 1
 za : 0 < s.na → s.ra ≠ 0
 zb : 0 < s.nb → s.rb ≠ 0
theorem Ch9.next {s : Two} (h : Ch9 s) : Ch9 s.next := by
 have hsix := h.nine
 have hlen : s.len < s.nb ∨ (s.nb = 0 ∧ s.len = 0) := by
  rcases Nat.eq_zero_or_pos s.nb with e | e
  ·exact Or.inr ⟨e,by unfold Two.len; rw [if_pos e]⟩
  ·rcases Nat.eq_zero_or_pos s.len with e2 | e2
   ·exact Or.inl (by omega)
   ·exact Or.inl (by have := (s.len_top e2).2.2.2; omega)
 have hba : s.nb ≤ s.na := by rcases h.lt with e | e <;> omega
 refine ⟨hlen,by show s.nb ≤ 9; omega,?_,?_,h.tb,fun e => ?_,h.zb,fun e => ?_⟩
 ·show IForm s.nb s.qb (vw s.nb)
  rcases Nat.eq_zero_or_pos s.nb with e | e
  ·rw [e]; exact IForm.nil' (by decide)
  ·exact h.fb.le (vw_two s.na (by omega) s.nb (by rcases h.lt with g | g <;> omega) e).1
 ·show IForm s.len (fun i => s.rest i * (s.rest (s.len - 1))⁻¹) (vw (s.nb - 1))
  rcases Nat.eq_zero_or_pos s.len with e | e
  ·rw [e]; exact IForm.nil' (by have := (vw_le (s.nb - 1) (by omega)).2.1; omega)
  ·obtain ⟨h1,h2,h3,h4⟩ := s.len_top e
   have hv := vw_two s.na (by omega) s.nb (by rcases h.lt with g | g <;> omega) h2
   have f := (form_div h.fa h.fb h2 (by rw [h.tb h2]; decide)).le hv.2
   exact (f.less h3).monic (by omega) h1
 ·exact Rat.mul_inv_cancel _ (s.len_top e).1
 ·show s.rest (s.len - 1) * -(s.ra) ≠ 0
  obtain ⟨h1,h2,h3,h4⟩ := s.len_top e
  intro g
  rcases Rat.mul_eq_zero.1 g with g | g
  ·exact h1 g
  ·exact h.za (by omega) (by grind)
theorem slope_form {n h : Nat} {q : Nat → Rat} (hn : n ≤ 9) (fq : IForm n q h) : IForm (n - 1) (dQ q) (h + 1) := by
 obtain ⟨D,z,h1,h2,h3⟩ := fq
 refine ⟨D,fun i => z (i + 1) * ((i + 1 : Nat) : Int),h1,by omega,fun i hi => ⟨?_,nlz_mul (h3 (i + 1) (by omega)).2 (show nl W32 ((i + 1 : Nat) : Int).natAbs ≤ 1 from nl_le W32 _ 1 (by decide) (by rw [Int.natAbs_natCast]; unfold W32; omega)) (by omega)⟩⟩
 show q (i + 1) * (((i + 1 : Nat) : Int) : Rat) * (D : Rat) = _
 rw [Rat.intCast_mul,← (h3 (i + 1) (by omega)).1]
 grind
theorem Ch9.start {n : Nat} {q : Nat → Rat} (hn : n ≤ 9) (fq : IForm n q 22) : Ch9 (Two.start n q) := by
 have hl := dQ_len n q
 have hle := trimN_le q n
 have ht := trimN_top q n
 have ht2 := trimN_top (dQ q) (n - 1)
 have fd : IForm (n - 1) (dQ q) 23 := slope_form hn fq
 refine ⟨?_,by show trimN q n ≤ 9; omega,?_,?_,fun h => Rat.mul_inv_cancel _ (ht h),fun h => Rat.mul_inv_cancel _ (ht2 h),ht,ht2⟩
 ·show trimN (dQ q) (n - 1) < trimN q n ∨ (trimN q n = 0 ∧ trimN (dQ q) (n - 1) = 0)
  omega
 ·show IForm (trimN q n) (fun i => q i * (q (trimN q n - 1))⁻¹) (vw (trimN q n))
  have hv := vw_le (trimN q n) (by omega)
  rcases Nat.eq_zero_or_pos (trimN q n) with e | e
  ·rw [e]; exact IForm.nil' (by decide)
  ·exact ((fq.less hle).monic (by omega) (ht e)).le (by omega)
 ·show IForm (trimN (dQ q) (n - 1)) (fun i => dQ q i * (dQ q (trimN (dQ q) (n - 1) - 1))⁻¹) (vw (trimN q n - 1))
  have hv := vw_le (trimN q n - 1) (by omega)
  rcases Nat.eq_zero_or_pos (trimN (dQ q) (n - 1)) with e | e
  ·rw [e]; exact IForm.nil' (by omega)
  ·exact ((fd.less (trimN_le _ _)).monic (by omega) (ht2 e)).le (by omega)
theorem Ch9.all {n : Nat} {q : Nat → Rat} (hn : n ≤ 9) (fq : IForm n q 22) : ∀ t,Ch9 (chs n q t)
 | 0 => Ch9.start hn fq
 | t + 1 => (Ch9.all hn fq t).next
theorem c9R_sz {n : Nat} {q : Nat → Rat} (hn : n ≤ 9) (fq : IForm n q 22) : ∀ t,(0 < cN n q t → qsz (cR n q t) ≤ rw9 (cN n q t)) ∧ (0 < cN n q (t + 1) → qsz (cR n q (t + 1)) ≤ rw9 (cN n q (t + 1)))
 | 0 => by
  have hle := trimN_le q n
  have hl := dQ_len n q
  refine ⟨fun h => ?_,fun h => ?_⟩
  ·have h0 : 0 < trimN q n := h
   have := (rw9_le (cN n q 0) (by show trimN q n < 10; omega)).2
   exact Nat.le_trans (fq.sz (by omega) _ (show trimN q n - 1 < n by omega)) (by omega)
  ·have h2 : 0 < trimN (dQ q) (n - 1) := h
   have h3 := trimN_le (dQ q) (n - 1)
   have := (rw9_le (cN n q 1) (by show trimN (dQ q) (n - 1) < 10; omega)).2
   exact Nat.le_trans ((slope_form hn fq).sz (by omega) _ (show trimN (dQ q) (n - 1) - 1 < n - 1 by omega)) (by omega)
 | t + 1 => by
  have ih := c9R_sz hn fq t
  refine ⟨ih.2,fun h => ?_⟩
  have hs := Ch9.all hn fq t
  have h0 : 0 < (chs n q t).len := h
  obtain ⟨h1,h2,h3,h4⟩ := (chs n q t).len_top h0
  have hsix := hs.nine
  have hlt : (chs n q t).nb < (chs n q t).na := by rcases hs.lt with g | g <;> omega
  have hv := vw_two (chs n q t).na (by omega) (chs n q t).nb hlt h2
  have hu := (vw_le ((chs n q t).nb - 1) (by omega)).2.1
  have hd := vw_down ((chs n q t).nb - 1) (by omega) (chs n q t).len (by omega)
  have f := (form_div hs.fa hs.fb h2 (by rw [hs.tb h2]; decide)).le hv.2
  have hz := Nat.le_trans (f.sz (by omega) ((chs n q t).len - 1) (by omega)) hd
  have hra := ih.1 (show 0 < (chs n q t).na by omega)
  have hr := rw9_two (chs n q t).na (by omega) (chs n q t).len (by omega) (by omega) h0
  rw [cR_two]
  refine Nat.le_trans (qsz_mul _ _ (show qsz (restQ (cN n q) (cQ n q) t (cN n q (t + 2) - 1)) ≤ vw (chs n q t).len from hz) (show qsz (-(cR n q t)) ≤ rw9 (chs n q t).na by rw [qsz_neg]; exact hra)) hr
theorem c9_down {n : Nat} {q : Nat → Rat} (hn : n ≤ 9) (fq : IForm n q 22) : ∀ t,cN n q t ≤ 9 - t
 | 0 => (Ch9.all hn fq 0).nine
 | t + 1 => by
  have ih := c9_down hn fq t
  have hs := (Ch9.all hn fq t).lt
  have e1 : cN n q (t + 1) = (chs n q t).nb := rfl
  have e2 : cN n q t = (chs n q t).na := rfl
  omega
/-- The chain of a polynomial. -/
theorem chain9_is {n : Nat} {q : Nat → Rat} (hn : n ≤ 9) (fq : IForm n q 22) : ∃ T,T ≤ 9 ∧ (∀ t,t < T → 0 < cN n q t) ∧ cN n q T = 0 ∧ IsChainS T (cN n q) (cQ n q) (cR n q) 17000 := by
 obtain ⟨T,h1,h2,h3⟩ : ∃ T,T < 10 ∧ (∀ t,t < T → 0 < cN n q t) ∧ cN n q T = 0 := by
  rcases first_zero (cN n q) 10 with h | h
  ·have := h 9 (by omega)
   have := c9_down hn fq 9
   omega
  ·exact h
 have hst := Ch9.all hn fq
 refine ⟨T,by omega,h2,h3,h2,h3,fun t _ => Nat.le_trans (hst t).nine (by omega),fun t i ht hi => ?_,fun t ht => Nat.le_trans ((c9R_sz hn fq t).1 (h2 t ht)) (Nat.le_trans (rw9_le _ (by have := (hst t).nine; show (chs n q t).na < 10; omega)).1 (by omega)),fun t ht => ?_,fun t ht => (cN_two n q t (h2 (t + 1) ht)).symm,fun t ht => ?_,fun t i ht hi => ?_,fun t ht => ⟨fun i hi => rfl,rfl⟩,by omega,by omega⟩
 ·have hv := vw_le (chs n q t).na (by have := (hst t).nine; omega)
  have := hv.2.2 (h2 t ht)
  exact Nat.le_trans ((hst t).fa.sz (by omega) i hi) (by omega)
 ·show (chs n q t).qa ((chs n q t).na - 1) ≠ 0
  rw [(hst t).ta (h2 t ht)]; decide
 ·have hb : 0 < (chs n q t).nb := h2 (t + 1) ht
  have hsix := (hst t).nine
  have hv := vw_two (chs n q t).na (by omega) (chs n q t).nb (by rcases (hst t).lt with g | g <;> omega) hb
  have hu := vw_le ((chs n q t).nb - 1) (by rcases (hst t).lt with g | g <;> omega)
  have hu2 := vw_le (chs n q t).na (by omega)
  show allS (chs n q t).na (chs n q t).qb ((chs n q t).nb - 1) 40000 ((chs n q t).na - ((chs n q t).nb - 1)) (chs n q t).qa
  exact allS_div (hst t).fa (hst t).fb hb (by rw [(hst t).tb hb]; decide) (by omega) (Nat.le_trans hv.2 (by omega))
 ·have hb : 0 < (chs n q t).nb := h2 (t + 1) ht
  have hsix := (hst t).nine
  have hv := vw_two (chs n q t).na (by omega) (chs n q t).nb (by rcases (hst t).lt with g | g <;> omega) hb
  have f := (form_div (hst t).fa (hst t).fb hb (by rw [(hst t).tb hb]; decide)).le hv.2
  have hi2 : i < (chs n q t).len := hi
  have lt := (chs n q t).len_top (by omega)
  have hu := vw_le ((chs n q t).nb - 1) (by rcases (hst t).lt with g | g <;> omega)
  have := hu.2.2 (by omega)
  exact Nat.le_trans (f.sz (by omega) i (by omega)) (by omega)

theorem back_mul9 {a b : Rat} (h : b ≠ 0) : a * b⁻¹ * b = a := by
  rw [Rat.mul_assoc,Rat.inv_mul_cancel b h,Rat.mul_one]
/-- The program's chain, sizes aside. -/
theorem cha9 {n : Nat} {q : Nat → Rat} (hn : n ≤ 9) (fq : IForm n q 22) {T : Nat} (h0 : 0 < T) (hpos : ∀ t,t < T → 0 < cN n q t) (hz : cN n q T = 0) (hC : IsChainS T (cN n q) (cQ n q) (cR n q) 17000) : ChA n q T (cN n q) (fun t i => cQ n q t i * cR n q t) := by
  have hst := Ch9.all hn fq
  have hR : ∀ t,t < T → cR n q t ≠ 0 := fun t ht => (hst t).za (hpos t ht)
  have hd : ∀ t,t + 1 < T → ∀ i,divR (fun i => cQ n q (t + 1) i * cR n q (t + 1)) (cN n q (t + 1) - 1) (cN n q t - (cN n q (t + 1) - 1)) (fun i => cQ n q t i * cR n q t) i = restQ (cN n q) (cQ n q) t i * cR n q t := fun t ht i =>
    divR_scale (cQ n q (t + 1)) (cN n q (t + 1) - 1) (cR n q (t + 1)) (cR n q t) (hR _ ht) (hC.top _ ht) _ _ i
  refine ⟨hpos,fun t ht e => ?_,rfl,fun i => ?_,rfl,fun h1 i => ?_,fun t ht => ?_,fun t ht i => ?_,hz⟩
  · rcases Rat.mul_eq_zero.1 e with g | g
    · exact hC.top t ht g
    · exact hR t ht g
  · exact back_mul9 (trimN_top q n (hpos 0 h0))
  · exact back_mul9 (trimN_top (dQ q) (n - 1) (hpos 1 h1))
  · rw [show divR (fun i => cQ n q (t + 1) i * cR n q (t + 1)) (cN n q (t + 1) - 1) (cN n q t - (cN n q (t + 1) - 1)) (fun i => cQ n q t i * cR n q t) = fun i => restQ (cN n q) (cQ n q) t i * cR n q t from funext (hd t ht),trimN_scale _ _ (hR t (by omega))]
    exact hC.len t ht
  · have ht1 : t + 1 < T := by omega
    show cQ n q (t + 2) i * cR n q (t + 2) = _
    rw [hd t ht1 i,cQ_two,cR_two]
    have hp : 0 < (chs n q t).len := hpos (t + 2) ht
    have hne : restQ (cN n q) (cQ n q) t (cN n q (t + 2) - 1) ≠ 0 := ((chs n q t).len_top hp).1
    generalize restQ (cN n q) (cQ n q) t (cN n q (t + 2) - 1) = x at *
    generalize restQ (cN n q) (cQ n q) t i = y at *
    generalize cR n q t = z at *
    rw [← Rat.mul_assoc,back_mul9 hne,show ((-1 : Int) : Rat) = -1 from rfl]
    grind
theorem far_bound (f o : Rat) : ∃ M : Rat,0 ≤ M ∧ -M ≤ f ∧ o ≤ M := by
  by_cases h1 : f ≤ 0 <;> by_cases h2 : o ≤ 0
  · exact ⟨-f,by grind,by grind,by grind⟩
  · exact ⟨-f + o,by grind,by grind,by grind⟩
  · exact ⟨0,by grind,by grind,by grind⟩
  · exact ⟨o,by grind,by grind,by grind⟩
/-- A number times distinct factors: the turns of its chain tell its roots. -/
theorem count9 {l : Nat} {q : Nat → Rat} {T : Nat} (h : ChA l q T (cN l q) (fun t i => cQ l q t i * cR l q t)) (h2 : 2 ≤ T) (hl : cN l q (T - 1) = 1) {s : Nat → Rat} {d : Nat} {c : Rat} (hc : c ≠ 0) (hs : ∀ i j,i < d → j < d → s i = s j → i = j) (hq : q = sc (prd s d) c) (hld : trimN q l = d + 3) {f o : Rat} (hfo : f ≤ o) :
    (tw (sgn (cN l q) (cQ l q) (cR l q) f) T).1 = (tw (sgn (cN l q) (cQ l q) (cR l q) o) T).1 + rcnt s f o d := by
  obtain ⟨M,m0,m1,m2⟩ := far_bound f o
  rw [turns_same,turns_same]
  refine (h.pch h2 hl m0).count (Rooted.made hc hs (fun x => ?_)) m1 hfo m2
  show evN (fun i => cQ l q 0 i * cR l q 0) x (cN l q 0) = _
  rw [show (fun i => cQ l q 0 i * cR l q 0) = q from funext h.c0,show cN l q 0 = d + 3 from hld,hq]
  show evN (fun i => prd s d i * c) x (d + 3) = _
  rw [evN_times,prd_ev]
  grind
theorem Dv.ofscaled {l : Nat} {q f : Nat → Rat} {s : Rat} (h : Dv (co l (fun i => q i * s)) f) : Dv (co l q) f := by
  obtain ⟨k,N,h1,h2⟩ := h
  refine ⟨fun i => k i * s,N,fun i hi => by show k i * s = 0; rw [h1 i hi,Rat.zero_mul],fun i => ?_⟩
  rw [h2 i,cmul_scale]
  have e : co l (fun i => q i * s) = sc (co l q) s := funext (fun i => by
    show co l (fun i => q i * s) i = co l q i * s
    by_cases h : i < l
    · rw [co_lt h,co_lt h]
    · rw [co_ge h,co_ge h,Rat.zero_mul])
  rw [e,cm_sc]
  rfl
theorem pall_L (s : Nat → Rat) (g : Nat → Nat) (d : Nat) : PolyL (pall s g d) (gsum g d + 1 + (d + 3) - 1) 3 := by
  rw [pall_over]
  have := (PolyL.pover s g d).mul (PolyL.prd s d)
  rw [Rat.one_mul] at this
  exact this
theorem prd_form (s : Nat → Rat) : ∀ d,(∀ j,j < d → qsz (s j) ≤ 2) → IForm (d + 3) (prd s d) (1 + 3 * d)
  | 0,_ => ⟨1,fun i => if i = 0 then 1 else if i = 2 then 3 else 0,by decide,nlw_one,fun i hi => by
      rcases (by omega : i = 0 ∨ i = 1 ∨ i = 2) with rfl | rfl | rfl
      · exact ⟨by show w3 0 * ((1 : Int) : Rat) = ((1 : Int) : Rat); decide +kernel,nlw_one⟩
      · exact ⟨by show w3 1 * ((1 : Int) : Rat) = ((0 : Int) : Rat); decide +kernel,by show nl W32 0 ≤ 1; rw [show nl W32 0 = 0 by decide]; omega⟩
      · exact ⟨by show w3 2 * ((1 : Int) : Rat) = ((3 : Int) : Rat); decide +kernel,nl_small7 3 (by omega)⟩⟩
  | d + 1,h => ((prd_form s d (fun j hj => h j (by omega))).lnr (prd_far s d (d + 3) (by omega)) (h d (by omega))).le (by omega)
/-- All that Roots' answer hangs on. -/
def RootsM (l : Nat) (q : Nat → Rat) (f o : Rat) (cnt : Nat) : Prop :=
  ∃ T,2 ≤ T ∧ T ≤ 9 ∧ IsChainS T (cN l q) (cQ l q) (cR l q) 17000 ∧
    ((cN l q (T - 1) = 1 ∧ (f ≤ o → (tw (sgn (cN l q) (cQ l q) (cR l q) f) T).1 = (tw (sgn (cN l q) (cQ l q) (cR l q) o) T).1 + cnt)) ∨
     (1 < cN l q (T - 1) ∧ ∃ d E,d ≤ 5 ∧ trimN (divQ (cQ l q (T - 1)) (cN l q (T - 1) - 1) (l - (cN l q (T - 1) - 1)) (cQ l q 0)) (l - (cN l q (T - 1) - 1)) = d + 3 ∧
       (∀ i,i < d + 3 → divQ (cQ l q (T - 1)) (cN l q (T - 1) - 1) (l - (cN l q (T - 1) - 1)) (cQ l q 0) i = E i) ∧ IForm (d + 3) E 22 ∧ trimN E (d + 3) = d + 3 ∧
       allS l (cQ l q (T - 1)) (cN l q (T - 1) - 1) 50000 (l - (cN l q (T - 1) - 1)) (cQ l q 0) ∧ (∀ i,i < cN l q (T - 1) → qsz (cQ l q (T - 1) i) ≤ 6000) ∧
       ∃ U,2 ≤ U ∧ U ≤ 9 ∧ IsChainS U (cN (d + 3) E) (cQ (d + 3) E) (cR (d + 3) E) 17000 ∧ cN (d + 3) E (U - 1) = 1 ∧
         (f ≤ o → (tw (sgn (cN (d + 3) E) (cQ (d + 3) E) (cR (d + 3) E) f) U).1 = (tw (sgn (cN (d + 3) E) (cQ (d + 3) E) (cR (d + 3) E) o) U).1 + cnt)))
theorem third_ne : (3 : Rat)⁻¹ ≠ 0 := by decide +kernel
theorem roots_math {l : Nat} {q : Nat → Rat} {f o : Rat} {s : Nat → Rat} {g : Nat → Nat} {d : Nat} {c : Rat} (hd : d ≤ 5) (hc : c ≠ 0) (hs : ∀ i j,i < d → j < d → s i = s j → i = j) (sz : ∀ j,j < d → qsz (s j) ≤ 2) (hq : q = sc (pall s g d) c) (hl : PolyL q l (3 * c)) (hl9 : l ≤ 9) (fq : IForm l q 22) : RootsM l q f o (rcnt s f o d) := by
  obtain ⟨T,hT9,hpos,hz,hC⟩ := chain9_is hl9 fq
  have h3c : (3 : Rat) * c ≠ 0 := fun e => by
    rcases Rat.mul_eq_zero.1 e with g | g
    · exact absurd g (by decide +kernel)
    · exact hc g
  have e0 : trimN q l = l := hl.trim h3c (Nat.le_refl _)
  have e1 : cN l q 0 = l := e0
  have pL := pall_L s g d
  have hlen : l = gsum g d + 1 + (d + 3) - 1 := by
    have k := PolyL.sc pL c
    rw [← hq] at k
    rcases Nat.lt_trichotomy l (gsum g d + 1 + (d + 3) - 1) with a | a | a
    · have := hl.far (gsum g d + 1 + (d + 3) - 1 - 1) (by omega)
      rw [k.top] at this
      exact absurd this h3c
    · exact a
    · have := k.far (l - 1) (by omega)
      rw [hl.top] at this
      exact absurd this h3c
  have hn1 : cN l q 1 = l - 1 := by
    have := dQ_len l q
    rw [e0] at this
    exact this
  have hT2 : 2 ≤ T := by
    rcases Nat.lt_or_ge T 2 with a | a
    · rcases (by omega : T = 0 ∨ T = 1) with e | e
      · subst e; omega
      · subst e; omega
    · exact a
  have hA := cha9 hl9 fq (by omega) hpos hz hC
  have hst := Ch9.all hl9 fq
  have hcoq : co l q = q := co_all_of hl.far
  have hdq : ∀ i,l - 1 ≤ i → dQ q i = 0 := fun i hi => by
    show q (i + 1) * _ = 0
    rw [hl.far (i + 1) (by omega),Rat.zero_mul]
  obtain ⟨a1,a2⟩ := hA.last_over hT2 hs hc (fun i => by
      show co (cN l q 0) (fun i => cQ l q 0 i * cR l q 0) i = _
      rw [show (fun i => cQ l q 0 i * cR l q 0) = q from funext hA.c0,e1,hcoq,hq]
      rfl) (fun i => by
      show co (cN l q 1) (fun i => cQ l q 1 i * cR l q 1) i = _
      rw [show (fun i => cQ l q 1 i * cR l q 1) = dQ q from funext (hA.c1 (by omega)),hn1,co_all_of hdq,hq]
      show pall s g d (i + 1) * c * _ = pall s g d (i + 1) * _ * c
      grind) ⟨_,(PolyL.pover s g d).far⟩
  have hRl : cR l q (T - 1) ≠ 0 := (hst (T - 1)).za (hpos _ (by omega))
  have b1 : Dv (co (cN l q (T - 1)) (cQ l q (T - 1))) (pover s g d) := Dv.ofscaled a1
  have b2 : Dv (pover s g d) (co (cN l q (T - 1)) (cQ l q (T - 1))) := (Dv_monic hRl).1 a2
  have pP := PolyL.pover s g d
  have hcoP : co (gsum g d + 1) (pover s g d) = pover s g d := co_all_of pP.far
  have hp := hpos (T - 1) (by omega)
  have ht1 : cQ l q (T - 1) (cN l q (T - 1) - 1) = 1 := (hst (T - 1)).ta hp
  have hEq : co (cN l q (T - 1)) (cQ l q (T - 1)) = pover s g d := by
    rw [← hcoP]
    exact funext (mono_eq hp (by omega) ht1 pP.top (by rw [hcoP]; exact b1) (by rw [hcoP]; exact b2))
  have hLn : cN l q (T - 1) = gsum g d + 1 := by
    have k1 := mono_len hp (show 0 < gsum g d + 1 by omega) ht1 pP.top (by rw [hcoP]; exact b1)
    have k2 := mono_len (show 0 < gsum g d + 1 by omega) hp pP.top ht1 (by rw [hcoP]; exact b2)
    omega
  refine ⟨T,hT2,hT9,hC,?_⟩
  by_cases hone : cN l q (T - 1) = 1
  · refine .inl ⟨hone,fun hfo => ?_⟩
    have hov : pover s g d = cone := by
      rw [← hEq,hone]
      rw [hone] at ht1
      refine funext (fun i => ?_)
      unfold cone
      by_cases e : i = 0
      · subst e; rw [if_pos rfl,co_lt (by omega)]; exact ht1
      · rw [if_neg e,co_ge (by omega)]
    have hpp : q = sc (prd s d) c := by
      rw [hq,pall_over,hov,show cmul cone (prd s d) = prd s d from funext (cmul_one _)]
    exact count9 hA hT2 hone hc hs hpp (by rw [e0]; omega) hfo
  · refine .inr ⟨by omega,d,sc (prd s d) (3 : Rat)⁻¹,hd,?_⟩
    have hE : PolyL (sc (prd s d) (3 : Rat)⁻¹) (d + 3) 1 := by
      have := PolyL.sc (PolyL.prd s d) (3 : Rat)⁻¹
      rw [show (3 : Rat) * 3⁻¹ = 1 by decide +kernel] at this
      exact this
    have htop : cQ l q (T - 1) (cN l q (T - 1) - 1) ≠ 0 := by rw [ht1]; decide
    -- the first link,monic
    have hQ0 : co l (cQ l q 0) = sc (pall s g d) (3 : Rat)⁻¹ := by
      refine funext (fun i => ?_)
      have hv : ∀ i,cQ l q 0 i = q i * (q (trimN q l - 1))⁻¹ := fun i => rfl
      have hm : ∀ i,q i * (q (trimN q l - 1))⁻¹ = pall s g d i * (3 : Rat)⁻¹ := fun i => by
        rw [e0,hl.top,hq]
        show pall s g d i * c * (3 * c)⁻¹ = _
        have k1 : 3 * c * (3 * c)⁻¹ = 1 := Rat.mul_inv_cancel _ h3c
        have k2 : (3 : Rat) * 3⁻¹ = 1 := by decide +kernel
        generalize (3 * c)⁻¹ = y at *
        generalize (3 : Rat)⁻¹ = z at *
        have : c * y = z := by grind
        rw [Rat.mul_assoc,this]
      show co l (cQ l q 0) i = pall s g d i * (3 : Rat)⁻¹
      by_cases e : i < l
      · rw [co_lt e,hv,hm]
      · rw [co_ge e,pL.far i (by omega),Rat.zero_mul]
    have hdv : Dv (co (cN l q (T - 1)) (cQ l q (T - 1))) (co l (cQ l q 0)) := by
      rw [hEq,hQ0,pall_over]
      obtain ⟨K,hK⟩ := prd_fins s d
      exact ((Dv.times (d := pover s g d) hK).scale (3 : Rat)⁻¹).congr (fun i => by rw [cmul_comm]; rfl)
    have hnone := div_none hp htop hdv
    have hco := co_trim (divR (cQ l q (T - 1)) (cN l q (T - 1) - 1) (l - (cN l q (T - 1) - 1)) (cQ l q 0)) (min l (cN l q (T - 1) - 1))
    rw [hnone] at hco
    have hdc := div_co2 (cQ l q 0) (cQ l q (T - 1)) l (cN l q (T - 1)) hp htop
    obtain ⟨k,hk⟩ : ∃ k,k = l - (cN l q (T - 1) - 1) := ⟨_,rfl⟩
    obtain ⟨Z,hZ⟩ : ∃ Z,Z = divQ (cQ l q (T - 1)) (cN l q (T - 1) - 1) (l - (cN l q (T - 1) - 1)) (cQ l q 0) := ⟨_,rfl⟩
    rw [← hZ,← hk]
    rw [← hZ,← hk] at hdc
    have hquo : co k Z = sc (prd s d) (3 : Rat)⁻¹ := by
      refine cm_cancel pP (by decide +kernel) (Fins.co _ _) ⟨_,hE.far⟩ (funext (fun i => ?_))
      have e := hdc i
      rw [← hk] at hco
      have hz0 : co 0 (divR (cQ l q (T - 1)) (cN l q (T - 1) - 1) k (cQ l q 0)) i = 0 := co_ge (by omega)
      rw [← hco i,hz0,Rat.add_zero,hQ0,hEq,cmul_comm] at e
      rw [← e,cm_scR,← pall_over]
    have hkd : d + 3 ≤ k := by
      rcases Nat.lt_or_ge k (d + 3) with a | a
      · have : co k Z (d + 3 - 1) = 0 := co_ge (by omega)
        rw [hquo,hE.top] at this
        exact absurd this (by decide +kernel)
      · exact a
    have hZE : ∀ i,i < k → Z i = sc (prd s d) (3 : Rat)⁻¹ i := fun i hi => by rw [← hquo,co_lt hi]
    have fE : IForm (d + 3) (sc (prd s d) (3 : Rat)⁻¹) 22 := ((prd_form s d sz).scale (r := (3 : Rat)⁻¹) (S := 2) (by decide +kernel)).le (by omega)
    obtain ⟨U,hU9,upos,uz,uC⟩ := chain9_is (show d + 3 ≤ 9 by omega) fE
    have tE : trimN (sc (prd s d) (3 : Rat)⁻¹) (d + 3) = d + 3 := hE.trim (by decide +kernel) (Nat.le_refl _)
    have un1 : cN (d + 3) (sc (prd s d) (3 : Rat)⁻¹) 1 = d + 3 - 1 := by
      have := dQ_len (d + 3) (sc (prd s d) (3 : Rat)⁻¹)
      rw [tE] at this
      exact this
    have un0 : cN (d + 3) (sc (prd s d) (3 : Rat)⁻¹) 0 = d + 3 := tE
    have hU2 : 2 ≤ U := by
      rcases Nat.lt_or_ge U 2 with a | a
      · rcases (by omega : U = 0 ∨ U = 1) with e | e
        · subst e; omega
        · subst e; omega
      · exact a
    have uA := cha9 (show d + 3 ≤ 9 by omega) fE (by omega) upos uz uC
    have hdE : dQ (sc (prd s d) (3 : Rat)⁻¹) = sc (dQ (prd s d)) (3 : Rat)⁻¹ := funext (fun i => by
      show prd s d (i + 1) * (3 : Rat)⁻¹ * _ = prd s d (i + 1) * _ * (3 : Rat)⁻¹
      grind)
    have uone : cN (d + 3) (sc (prd s d) (3 : Rat)⁻¹) (U - 1) = 1 := by
      refine uA.last_one hU2 (fun D h1 h2 => ?_)
      have g1 : Dv D (sc (prd s d) (3 : Rat)⁻¹) := by
        have h1' : Dv D (co (cN (d + 3) (sc (prd s d) (3 : Rat)⁻¹) 0) (fun i => cQ (d + 3) (sc (prd s d) (3 : Rat)⁻¹) 0 i * cR (d + 3) (sc (prd s d) (3 : Rat)⁻¹) 0)) := h1
        rw [show (fun i => cQ (d + 3) (sc (prd s d) (3 : Rat)⁻¹) 0 i * cR (d + 3) (sc (prd s d) (3 : Rat)⁻¹) 0) = sc (prd s d) (3 : Rat)⁻¹ from funext uA.c0,un0,co_all_of hE.far] at h1'
        exact h1'
      have g2 : Dv D (sc (dQ (prd s d)) (3 : Rat)⁻¹) := by
        have h2' : Dv D (co (cN (d + 3) (sc (prd s d) (3 : Rat)⁻¹) 1) (fun i => cQ (d + 3) (sc (prd s d) (3 : Rat)⁻¹) 1 i * cR (d + 3) (sc (prd s d) (3 : Rat)⁻¹) 1)) := h2
        rw [show (fun i => cQ (d + 3) (sc (prd s d) (3 : Rat)⁻¹) 1 i * cR (d + 3) (sc (prd s d) (3 : Rat)⁻¹) 1) = dQ (sc (prd s d) (3 : Rat)⁻¹) from funext (uA.c1 (by omega)),un1,co_all_of (fun i hi => by
          show sc (prd s d) (3 : Rat)⁻¹ (i + 1) * _ = 0
          rw [hE.far (i + 1) (by omega),Rat.zero_mul]),hdE] at h2'
        exact h2'
      have back : ∀ F : Nat → Rat,Dv D (sc F (3 : Rat)⁻¹) → Dv D F := fun F h => (h.scale 3).congr (fun i => by
        show F i * (3 : Rat)⁻¹ * 3 = F i
        rw [Rat.mul_assoc,show (3 : Rat)⁻¹ * 3 = 1 by decide +kernel,Rat.mul_one])
      exact (prd_slope s d hs).cop D (back _ g1) (back _ g2)
    have fa : IForm l (cQ l q 0) 22 := by
      have := fq.monic (t := trimN q l - 1) (by rw [e0]; have := hl.pos; omega) (by rw [e0,hl.top]; exact h3c)
      exact this
    have hb9 := (hst (T - 1)).nine
    have hv2 : vw (cN l q (T - 1)) ≤ 5735 := vw_down (cN l q (T - 1)) (by show (chs l q (T - 1)).na < 10; omega) 2 (by omega)
    have fb : IForm (cN l q (T - 1)) (cQ l q (T - 1)) 5735 := (hst (T - 1)).fa.le hv2
    refine ⟨?_,fun i hi => hZE i (by omega),fE,tE,?_,fun i hi => Nat.le_trans (fb.sz (by omega) i hi) (by omega),U,hU2,hU9,uC,uone,fun hfo => count9 uA hU2 uone third_ne hs rfl tE hfo⟩
    · refine trim_len Z k (d + 3) hkd (fun i h1 h2 => ?_) (fun _ => ?_)
      · rw [hZE i h2,hE.far i h1]
      · rw [hZE _ (by omega),hE.top]; decide +kernel
    · have hk8 : l - (cN l q (T - 1) - 1) ≤ 8 := by omega
      rw [hk]
      exact allS_div fa fb hp htop (by omega) (Nat.le_trans (Nat.add_le_add_left (Nat.mul_le_mul_right (5735 + 1) hk8) 22) (by omega))

end Go.Proofs.YtieeneaebjihlaaGreatDoor

namespace Go.Proofs.YtieeneaebjihlaaGreatDoor
open Go.RowKit
set_option linter.unusedVariables false
set_option linter.unusedSimpArgs false

theorem ret_pair {a b : Int} (h : a = b) : Ending.returned (.tuple #[.int .i64 a,.int .i64 0]) = .returned (.tuple #[.int .i64 b,.int .i64 0]) := by rw [h]
/-- The bounds, link by link. -/
theorem links_sz {n : Nat} {q : Nat → Rat} (hn : n ≤ 9) (fq : IForm n q 22) {T : Nat} (hpos : ∀ t,t < T → 0 < cN n q t) : ∀ k,k < T → ∃ Lk jk,(∀ i,i < cN n q k → qsz (cQ n q k i) ≤ Lk) ∧ 1 ≤ Lk ∧ cN n q k ≤ 2 ^ jk ∧ vsz jk Lk 2 ≤ 40000 := fun k hk => by
 have h := Ch9.all hn fq k
 have h9 := h.nine
 have hj := jz_all (cN n q k) (by show (chs n q k).na < 10; omega)
 have hv := (vw_le (cN n q k) (by show (chs n q k).na < 10; omega)).2.1
 exact ⟨vw (cN n q k),jz (cN n q k),fun i hi => h.fa.sz (by show 1 ≤ vw (cN n q k); omega) i hi,by omega,hj.1,hj.2.1⟩
theorem links_ev {n : Nat} {q : Nat → Rat} (hn : n ≤ 9) (fq : IForm n q 22) {T : Nat} (hpos : ∀ t,t < T → 0 < cN n q t) {x : Rat} (hx : qsz x ≤ 2) : ∀ k,k < T → qsz (evN (cQ n q k) x (cN n q k)) ≤ 100000 := fun k hk => by
 have h := Ch9.all hn fq k
 have h9 := h.nine
 have hj := (jz_all (cN n q k) (by show (chs n q k).na < 10; omega)).2.2 (hpos k hk)
 have hv := (vw_le (cN n q k) (by show (chs n q k).na < 10; omega)).2.1
 exact Nat.le_trans (qsz_evN (cQ n q k) x (vw (cN n q k)) 2 hx (cN n q k) (fun i hi => h.fa.sz (by show 1 ≤ vw (cN n q k); omega) i hi)) hj
theorem slope_sz {n : Nat} {q : Nat → Rat} (hn : n ≤ 9) (fq : IForm n q 22) : ∀ i,i < cN n q 1 → qsz (dQ q i) ≤ 17000 := fun i hi => by
 have h1 : i < trimN (dQ q) (n - 1) := hi
 have h2 := trimN_le (dQ q) (n - 1)
 exact Nat.le_trans ((slope_form hn fq).sz (by omega) i (by omega)) (by omega)


set_option maxRecDepth 100000 in
set_option maxHeartbeats 4000000 in
theorem proots_zero (F_ T_ : Value) (f o_ : Rat) (w : World) (hf : RatAt w F_ f 2) (hto : RatAt w T_ o_ 2) (ht : Tab w) :
  Calls Tryz.prog 15 #[.slice none 0 0,F_,T_] w fun e w' => e = .returned (.tuple #[.int .i64 0,.int .i64 2]) ∧ Below w.heap.size w w' := by
 obtain ⟨pf,af,nf,cf,bf,mf,df,rfl⟩ := hf.open
 obtain ⟨pt,at_,nt,ct,bt_,mt,dt,rfl⟩ := hto.open
 have hv : QRow w (.slice none 0 0) 0 (fun _ => 0) 1 := (frow_zero w none 0 (fun _ => 0) (by omega)).q 1 (fun i hi => by omega)
 have BB : Below w.heap.size w w := Below.refl _ _
 obtain ⟨Wb0,hW0,hS0,hL0,VF⟩ := V3.lay w 28 (.bool pf) (.slice af nf cf) (.slice bf mf df)
 replace hv := hv.below hL0
 replace hf := hf.below hL0
 replace hto := hto.below hL0
 replace ht := ht.below hL0
 replace BB := BB.trans (hL0.mono BB.size)
 clear hL0
 obtain ⟨Wb1,hW1,hS1,hL1,VT⟩ := V3.lay Wb0 28 (.bool pt) (.slice at_ nt ct) (.slice bt_ mt dt)
 rw [hS0] at VT hS1
 replace hv := hv.below hL1
 replace hf := hf.below hL1
 replace hto := hto.below hL1
 replace ht := ht.below hL1
 replace VF := VF.below hL1
 replace BB := BB.trans (hL1.mono BB.size)
 clear hL1
 go_enter Tryz.func15,Tryz.ntmps15
 go_wp2_with fail
 rw [← hW0]
 rw [← hW1]
 clear hW0 hW1 hS0 hS1
 refine (pdegree_at _ 0 (fun _ => 0) 1 _ hv (by omega) (by omega) (by omega)).mono ?_
 rintro e w1 ⟨rfl,b1⟩
 replace hv := hv.below b1
 replace hf := hf.below b1
 replace hto := hto.below b1
 replace ht := ht.below b1
 replace VF := VF.below b1
 replace VT := VT.below b1
 replace BB := BB.trans (b1.mono BB.size)
 clear b1
 rw [show trimN (fun _ => (0 : Rat)) 0 = 0 from rfl]
 go_wp2
 go_ret2
 exact ⟨rfl,BB⟩


set_option maxRecDepth 100000 in
set_option maxHeartbeats 4000000 in
theorem proots_range (v F_ T_ : Value) (n : Nat) (q : Nat → Rat) (f o_ : Rat) (w : World) (hf : RatAt w F_ f 2) (hto : RatAt w T_ o_ 2) (ht : Tab w) (hv : FRow w v n q) (hn : n ≤ 1000) (hn0 : 0 < n) (e0 : trimN q n = n) (sq : ∀ i,i < n → qsz (q i) ≤ 17000) (hlt : 0 < cmpQ f o_) :
  Calls Tryz.prog 15 #[v,F_,T_] w fun e w' => e = .returned (.tuple #[.int .i64 0,.int .i64 8]) ∧ Below w.heap.size w w' := by
 obtain ⟨pf,af,nf,cf,bf,mf,df,rfl⟩ := hf.open
 obtain ⟨pt,at_,nt,ct,bt_,mt,dt,rfl⟩ := hto.open
 obtain ⟨ao,c,rfl⟩ := hv.open
 have BB : Below w.heap.size w w := Below.refl _ _
 obtain ⟨Wb0,hW0,hS0,hL0,VF⟩ := V3.lay w 28 (.bool pf) (.slice af nf cf) (.slice bf mf df)
 replace hv := hv.below hL0
 replace hf := hf.below hL0
 replace hto := hto.below hL0
 replace ht := ht.below hL0
 replace BB := BB.trans (hL0.mono BB.size)
 clear hL0
 obtain ⟨Wb1,hW1,hS1,hL1,VT⟩ := V3.lay Wb0 28 (.bool pt) (.slice at_ nt ct) (.slice bt_ mt dt)
 rw [hS0] at VT hS1
 replace hv := hv.below hL1
 replace hf := hf.below hL1
 replace hto := hto.below hL1
 replace ht := ht.below hL1
 replace VF := VF.below hL1
 replace BB := BB.trans (hL1.mono BB.size)
 clear hL1
 go_enter Tryz.func15,Tryz.ntmps15
 go_wp2_with fail
 rw [← hW0]
 rw [← hW1]
 clear hW0 hW1 hS0 hS1
 refine (pdegree_at _ n q 17000 _ (hv.q 17000 sq) (by omega) (by omega) (by omega)).mono ?_
 rintro e w1 ⟨rfl,b1⟩
 replace hv := hv.below b1
 replace hf := hf.below b1
 replace hto := hto.below b1
 replace ht := ht.below b1
 replace VF := VF.below b1
 replace VT := VT.below b1
 replace BB := BB.trans (b1.mono BB.size)
 clear b1
 rw [e0]
 have g0 : ¬ ((n : Int) - 1 < 0) := by omega
 have g0b : decide ((n : Int) - 1 < 0) = false := decide_eq_false g0
 obtain ⟨VF_0,VF_1,VF_2,VF_3,VF_4,VF_5⟩ := id VF
 obtain ⟨VT_0,VT_1,VT_2,VT_3,VT_4,VT_5⟩ := id VT
 go_wp2_with fail
 clear VF_0 VF_1 VF_2 VF_3 VF_4 VF_5 VT_0 VT_1 VT_2 VT_3 VT_4 VT_5
 refine (qcmp_at _ _ f o_ 2 _ hf hto (by omega) (by omega)).mono ?_
 rintro e w2 ⟨rfl,b2⟩
 replace hv := hv.below b2
 replace hf := hf.below b2
 replace hto := hto.below b2
 replace ht := ht.below b2
 replace VF := VF.below b2
 replace VT := VT.below b2
 replace BB := BB.trans (b2.mono BB.size)
 clear b2
 have g1 : 0 < cmpQ f o_ := hlt
 have g1b : decide (0 < cmpQ f o_) = true := decide_eq_true g1
 go_wp2
 go_ret2
 exact ⟨rfl,BB⟩


set_option maxRecDepth 100000 in
set_option maxHeartbeats 8000000 in
theorem proots2_at (v F_ T_ : Value) (n : Nat) (q : Nat → Rat) (f o_ : Rat) (w : World) (hf : RatAt w F_ f 2) (hto : RatAt w T_ o_ 2) (ht : Tab w) (cnt : Nat) (hv : FRow w v n q) (hn : n ≤ 9) (hn0 : 0 < n) (e0 : trimN q n = n) (fq : IForm n q 22) (hM : RootsM n q f o_ cnt) (hle : f ≤ o_) (hlc : cmpQ f o_ ≤ 0) :
  Calls Tryz.prog 15 #[v,F_,T_] w fun e w' => e = .returned (.tuple #[.int .i64 (cnt : Int),.int .i64 0]) ∧ Below w.heap.size w w' := by
 obtain ⟨pf,af,nf,cf,bf,mf,df,rfl⟩ := hf.open
 obtain ⟨pt,at_,nt,ct,bt_,mt,dt,rfl⟩ := hto.open
 obtain ⟨ao,c,rfl⟩ := hv.open
 have sq : ∀ i,i < n → qsz (q i) ≤ 17000 := fun i hi => Nat.le_trans (fq.sz (by omega) i hi) (by omega)
 have sf := hf.qsz (by omega)
 have sto := hto.qsz (by omega)
 obtain ⟨T,hT2,hT9,hC,hcase⟩ := hM
 have hpos := hC.pos
 have HC : Hid (IsChainS T (cN n q) (cQ n q) (cR n q) 17000) := hC
 clear hC
 have HFQ : Hid (IForm n q 22) := fq
 clear fq
 have HPOS : Hid (∀ t,t < T → 0 < cN n q t) := hpos
 clear hpos
 have HE0 : Hid (cN n q 0 = n) := e0
 have BB : Below w.heap.size w w := Below.refl _ _
 obtain ⟨Wb0,hW0,hS0,hL0,VF⟩ := V3.lay w 28 (.bool pf) (.slice af nf cf) (.slice bf mf df)
 replace hv := hv.below hL0
 replace hf := hf.below hL0
 replace hto := hto.below hL0
 replace ht := ht.below hL0
 replace BB := BB.trans (hL0.mono BB.size)
 clear hL0
 obtain ⟨Wb1,hW1,hS1,hL1,VT⟩ := V3.lay Wb0 28 (.bool pt) (.slice at_ nt ct) (.slice bt_ mt dt)
 rw [hS0] at VT hS1
 replace hv := hv.below hL1
 replace hf := hf.below hL1
 replace hto := hto.below hL1
 replace ht := ht.below hL1
 replace VF := VF.below hL1
 replace BB := BB.trans (hL1.mono BB.size)
 clear hL1
 go_enter Tryz.func15,Tryz.ntmps15
 go_wp2_with fail
 rw [← hW0]
 rw [← hW1]
 clear hW0 hW1 hS0 hS1
 refine (pdegree_at _ n q 17000 _ (hv.q 17000 sq) (by omega) (by omega) (by omega)).mono ?_
 rintro e w1 ⟨rfl,b1⟩
 replace hv := hv.below b1
 replace hf := hf.below b1
 replace hto := hto.below b1
 replace ht := ht.below b1
 replace VF := VF.below b1
 replace VT := VT.below b1
 replace BB := BB.trans (b1.mono BB.size)
 clear b1
 rw [e0]
 have g0 : ¬ ((n : Int) - 1 < 0) := by omega
 have g0b : decide ((n : Int) - 1 < 0) = false := decide_eq_false g0
 obtain ⟨VF_0,VF_1,VF_2,VF_3,VF_4,VF_5⟩ := id VF
 obtain ⟨VT_0,VT_1,VT_2,VT_3,VT_4,VT_5⟩ := id VT
 go_wp2_with fail
 clear VF_0 VF_1 VF_2 VF_3 VF_4 VF_5 VT_0 VT_1 VT_2 VT_3 VT_4 VT_5
 refine (qcmp_at _ _ f o_ 2 _ hf hto (by omega) (by omega)).mono ?_
 rintro e w2 ⟨rfl,b2⟩
 replace hv := hv.below b2
 replace hf := hf.below b2
 replace hto := hto.below b2
 replace ht := ht.below b2
 replace VF := VF.below b2
 replace VT := VT.below b2
 replace BB := BB.trans (b2.mono BB.size)
 clear b2
 have g1 : ¬ (0 < cmpQ f o_) := by omega
 have g1b : decide (0 < cmpQ f o_) = false := decide_eq_false g1
 go_wp2_with fail
 refine (plinksS_at _ n q T (cN n q) (cQ n q) (cR n q) 17000 _ (hv.q 17000 sq) ht HC.out hT2 (by omega) (by omega) rfl (fun i _ => rfl) (Rat.mul_one _) rfl (fun i _ => rfl) (Rat.mul_one _) (slope_sz hn HFQ.out)).mono ?_
 rintro e w3 ⟨u,rfl,CH,b3⟩
 replace hv := hv.below b3
 replace hf := hf.below b3
 replace hto := hto.below b3
 replace ht := ht.below b3
 replace VF := VF.below b3
 replace VT := VT.below b3
 replace BB := BB.trans (b3.mono BB.size)
 clear b3
 clear g0 g0b g1 g1b e0 sq
 obtain ⟨g,cap,rfl,hTc,hc63,hcs⟩ := id CH
 obtain ⟨y,p_,a_,n_,c_,b_,m_,d_,q1,q2,q3,q4,FY,RY⟩ := hcs (T - 1) (by omega)
 obtain ⟨y0,p0,a0,n0,c0,b0,m0,d0,z1,z2,z3,z4,FZ,RZ⟩ := hcs 0 (by omega)
 obtain ⟨ay,cy,rfl⟩ := FY.open
 rw [Nat.zero_mul] at z1
 clear hcs q2 q3 q4 z2 z3 z4 RY RZ
 have hTi : (T : Int) - 1 = ((T - 1 : Nat) : Int) := by omega
 have k1 : ((T - 1 : Nat) : Int) < (T : Int) := by omega
 have k0 : (0 : Int) ≤ ((T - 1 : Nat) : Int) := by omega
 obtain ⟨K,hK⟩ : ∃ K,T - 1 = K := ⟨_,rfl⟩
 rw [hK] at hTi k1 k0 q1 hcase FY
 rcases hcase with ⟨hone,hcnt⟩ | ⟨hmore,hcase⟩
 ·rw [hone] at q1
  have HCNT : Hid (f ≤ o_ → (tw (sgn (cN n q) (cQ n q) (cR n q) f) T).1 = (tw (sgn (cN n q) (cQ n q) (cR n q) o_) T).1 + cnt) := hcnt
  clear hcnt hone z1 FZ FY hK
  go_wp2_with fail
  clear q1 hTi k1 k0
  refine wp_region_until 9 #[true,true,true,true,true,true,true,true,true] (fun aF lsd a' w' => ∃ vu0 vu1 vu2 vu3 vu4 vu5 vu6 vu7 vu8 : Value,a' = ((((((((aF.put (some 44) vu0).put (some 45) vu1).put (some 46) vu2).put (some 47) vu3).put (some 48) vu4).put (some 49) vu5).put (some 50) vu6).put (some 6) vu7).put (some 7) vu8 ∧ Below w3.heap.size w3 w' ∧ (lsd.getD 0 false = true → vu0 = .slice (some ⟨g,0,none⟩) T cap) ∧ (lsd.getD 1 false = true → vu1 = .agg #[.bool pf,.slice af nf cf,.slice bf mf df]) ∧ (lsd.getD 2 false = true → vu2 = .int .i64 (((tw (sgn (cN n q) (cQ n q) (cR n q) f) T).1 : Nat) : Int)) ∧ (lsd.getD 3 false = true → vu3 = .slice (some ⟨g,0,none⟩) T cap) ∧ (lsd.getD 4 false = true → vu4 = .agg #[.bool pt,.slice at_ nt ct,.slice bt_ mt dt]) ∧ (lsd.getD 5 false = true → vu5 = .int .i64 (((tw (sgn (cN n q) (cQ n q) (cR n q) o_) T).1 : Nat) : Int)) ∧ (lsd.getD 6 false = true → vu6 = .int .i64 ((((tw (sgn (cN n q) (cQ n q) (cR n q) f) T).1 : Nat) : Int) - (((tw (sgn (cN n q) (cQ n q) (cR n q) o_) T).1 : Nat) : Int))) ∧ (lsd.getD 7 false = true → vu7 = .int .i64 ((((tw (sgn (cN n q) (cQ n q) (cR n q) f) T).1 : Nat) : Int) - (((tw (sgn (cN n q) (cQ n q) (cR n q) o_) T).1 : Nat) : Int))) ∧ (lsd.getD 8 false = true → vu8 = .int .i64 0)) (by kernel_rfl) (by decide) (by kernel_rfl) (by rfl) (by kernel_rfl) ?_ ?_ ?_
  ·exact ⟨_,_,_,_,_,_,_,_,_,by simp only [Act.put,xL4,xL5,xL6]; rfl,(Below.refl _ _).drew,fun h => absurd h (fun h => mark_none h),fun h => absurd h (fun h => mark_none h),fun h => absurd h (fun h => mark_none h),fun h => absurd h (fun h => mark_none h),fun h => absurd h (fun h => mark_none h),fun h => absurd h (fun h => mark_none h),fun h => absurd h (fun h => mark_none h),fun h => absurd h (fun h => mark_none h),fun h => absurd h (fun h => mark_none h)⟩
  ·rintro lsd au wn iu hszu ⟨vu0,vu1,vu2,vu3,vu4,vu5,vu6,vu7,vu8,rfl,hbu,fu0,fu1,fu2,fu3,fu4,fu5,fu6,fu7,fu8⟩ himu hru
   rcases (show iu = 0 ∨ iu = 1 ∨ iu = 2 ∨ iu = 3 ∨ iu = 4 ∨ iu = 5 ∨ iu = 6 ∨ iu = 7 ∨ iu = 8 by omega) with rfl | rfl | rfl | rfl | rfl | rfl | rfl | rfl | rfl
   ·refine wpOp_shut (by rfl) (fun K hK => ?_)
    simp only [Act.put,xL4,xL5,xL6]
    go_simp
    exact hK.out _ _ ⟨(.slice (some ⟨g,0,none⟩) T cap),vu1,vu2,vu3,vu4,vu5,vu6,vu7,vu8,by simp only [Act.put,xL4,xL5,xL6],hbu,fun _ => rfl,fun h => fu1 (mark_of (by decide) h),fun h => fu2 (mark_of (by decide) h),fun h => fu3 (mark_of (by decide) h),fun h => fu4 (mark_of (by decide) h),fun h => fu5 (mark_of (by decide) h),fun h => fu6 (mark_of (by decide) h),fun h => fu7 (mark_of (by decide) h),fun h => fu8 (mark_of (by decide) h)⟩
   ·refine wpOp_shut (by rfl) (fun K hK => ?_)
    simp only [Act.put,xL4,xL5,xL6]
    obtain ⟨VF_0,VF_1,VF_2,VF_3,VF_4,VF_5⟩ := VF.below hbu
    go_simp
    exact hK.out _ _ ⟨vu0,(.agg #[.bool pf,.slice af nf cf,.slice bf mf df]),vu2,vu3,vu4,vu5,vu6,vu7,vu8,by simp only [Act.put,xL4,xL5,xL6],hbu,fun h => fu0 (mark_of (by decide) h),fun _ => rfl,fun h => fu2 (mark_of (by decide) h),fun h => fu3 (mark_of (by decide) h),fun h => fu4 (mark_of (by decide) h),fun h => fu5 (mark_of (by decide) h),fun h => fu6 (mark_of (by decide) h),fun h => fu7 (mark_of (by decide) h),fun h => fu8 (mark_of (by decide) h)⟩
   ·have eu0 := fu0 (dep_of 0 hru rfl (by kernel_rfl))
    have eu1 := fu1 (dep_of 1 hru rfl (by kernel_rfl))
    replace eu0 := eu0.symm
    subst eu0
    replace eu1 := eu1.symm
    subst eu1
    refine wpOp_shut (by rfl) (fun K hK => ?_)
    simp only [Act.put,xL4,xL5,xL6]
    have hf := hf.below hbu
    have ht := ht.below hbu
    have CH := CH.below hbu
    go_simp
    refine (pturns2_at _ _ T (cN n q) (cQ n q) (cR n q) f 17000 2 _ CH hf ht (by omega) (links_sz hn HFQ.out HPOS.out) (fun k hk => HC.out.szR k hk) (by omega) (fun k hk => HC.out.small k hk) (by omega) (by omega) (links_ev hn HFQ.out HPOS.out sf)).mono ?_
    rintro eu wx ⟨rfl,bu⟩
    go_wp2_with fail
    have hbu2 := hbu.trans (bu.mono hbu.size)
    exact hK.out _ _ ⟨(.slice (some ⟨g,0,none⟩) T cap),(.agg #[.bool pf,.slice af nf cf,.slice bf mf df]),(.int .i64 (((tw (sgn (cN n q) (cQ n q) (cR n q) f) T).1 : Nat) : Int)),vu3,vu4,vu5,vu6,vu7,vu8,by simp only [Act.put,xL4,xL5,xL6],hbu2,fun _ => rfl,fun _ => rfl,fun _ => rfl,fun h => fu3 (mark_of (by decide) h),fun h => fu4 (mark_of (by decide) h),fun h => fu5 (mark_of (by decide) h),fun h => fu6 (mark_of (by decide) h),fun h => fu7 (mark_of (by decide) h),fun h => fu8 (mark_of (by decide) h)⟩
   ·refine wpOp_shut (by rfl) (fun K hK => ?_)
    simp only [Act.put,xL4,xL5,xL6]
    go_simp
    exact hK.out _ _ ⟨vu0,vu1,vu2,(.slice (some ⟨g,0,none⟩) T cap),vu4,vu5,vu6,vu7,vu8,by simp only [Act.put,xL4,xL5,xL6],hbu,fun h => fu0 (mark_of (by decide) h),fun h => fu1 (mark_of (by decide) h),fun h => fu2 (mark_of (by decide) h),fun _ => rfl,fun h => fu4 (mark_of (by decide) h),fun h => fu5 (mark_of (by decide) h),fun h => fu6 (mark_of (by decide) h),fun h => fu7 (mark_of (by decide) h),fun h => fu8 (mark_of (by decide) h)⟩
   ·refine wpOp_shut (by rfl) (fun K hK => ?_)
    simp only [Act.put,xL4,xL5,xL6]
    obtain ⟨VT_0,VT_1,VT_2,VT_3,VT_4,VT_5⟩ := VT.below hbu
    go_simp
    exact hK.out _ _ ⟨vu0,vu1,vu2,vu3,(.agg #[.bool pt,.slice at_ nt ct,.slice bt_ mt dt]),vu5,vu6,vu7,vu8,by simp only [Act.put,xL4,xL5,xL6],hbu,fun h => fu0 (mark_of (by decide) h),fun h => fu1 (mark_of (by decide) h),fun h => fu2 (mark_of (by decide) h),fun h => fu3 (mark_of (by decide) h),fun _ => rfl,fun h => fu5 (mark_of (by decide) h),fun h => fu6 (mark_of (by decide) h),fun h => fu7 (mark_of (by decide) h),fun h => fu8 (mark_of (by decide) h)⟩
   ·have eu2 := fu2 (dep_of 2 hru rfl (by kernel_rfl))
    have eu3 := fu3 (dep_of 3 hru rfl (by kernel_rfl))
    have eu4 := fu4 (dep_of 4 hru rfl (by kernel_rfl))
    replace eu2 := eu2.symm
    subst eu2
    replace eu3 := eu3.symm
    subst eu3
    replace eu4 := eu4.symm
    subst eu4
    refine wpOp_shut (by rfl) (fun K hK => ?_)
    simp only [Act.put,xL4,xL5,xL6]
    have hto := hto.below hbu
    have ht := ht.below hbu
    have CH := CH.below hbu
    go_simp
    refine (pturns2_at _ _ T (cN n q) (cQ n q) (cR n q) o_ 17000 2 _ CH hto ht (by omega) (links_sz hn HFQ.out HPOS.out) (fun k hk => HC.out.szR k hk) (by omega) (fun k hk => HC.out.small k hk) (by omega) (by omega) (links_ev hn HFQ.out HPOS.out sto)).mono ?_
    rintro eu wx ⟨rfl,bu⟩
    go_wp2_with fail
    have hbu2 := hbu.trans (bu.mono hbu.size)
    exact hK.out _ _ ⟨vu0,vu1,(.int .i64 (((tw (sgn (cN n q) (cQ n q) (cR n q) f) T).1 : Nat) : Int)),(.slice (some ⟨g,0,none⟩) T cap),(.agg #[.bool pt,.slice at_ nt ct,.slice bt_ mt dt]),(.int .i64 (((tw (sgn (cN n q) (cQ n q) (cR n q) o_) T).1 : Nat) : Int)),vu6,vu7,vu8,by simp only [Act.put,xL4,xL5,xL6],hbu2,fun h => fu0 (mark_of (by decide) h),fun h => fu1 (mark_of (by decide) h),fun _ => rfl,fun _ => rfl,fun _ => rfl,fun _ => rfl,fun h => fu6 (mark_of (by decide) h),fun h => fu7 (mark_of (by decide) h),fun h => fu8 (mark_of (by decide) h)⟩
   ·have eu2 := fu2 (dep_of 2 hru rfl (by kernel_rfl))
    have eu5 := fu5 (dep_of 5 hru rfl (by kernel_rfl))
    replace eu2 := eu2.symm
    subst eu2
    replace eu5 := eu5.symm
    subst eu5
    refine wpOp_shut (by rfl) (fun K hK => ?_)
    simp only [Act.put,xL4,xL5,xL6]
    have hwr : IntKind.i64.wrap ((((tw (sgn (cN n q) (cQ n q) (cR n q) f) T).1 : Nat) : Int) - (((tw (sgn (cN n q) (cQ n q) (cR n q) o_) T).1 : Nat) : Int)) = (((tw (sgn (cN n q) (cQ n q) (cR n q) f) T).1 : Nat) : Int) - (((tw (sgn (cN n q) (cQ n q) (cR n q) o_) T).1 : Nat) : Int) := by have := tw_le (sgn (cN n q) (cQ n q) (cR n q) f) T; have := tw_le (sgn (cN n q) (cQ n q) (cR n q) o_) T; rw [IntKind.wrap_i64]; omega
    go_simp
    exact hK.out _ _ ⟨vu0,vu1,(.int .i64 (((tw (sgn (cN n q) (cQ n q) (cR n q) f) T).1 : Nat) : Int)),vu3,vu4,(.int .i64 (((tw (sgn (cN n q) (cQ n q) (cR n q) o_) T).1 : Nat) : Int)),(.int .i64 ((((tw (sgn (cN n q) (cQ n q) (cR n q) f) T).1 : Nat) : Int) - (((tw (sgn (cN n q) (cQ n q) (cR n q) o_) T).1 : Nat) : Int))),vu7,vu8,by simp only [Act.put,xL4,xL5,xL6],hbu,fun h => fu0 (mark_of (by decide) h),fun h => fu1 (mark_of (by decide) h),fun _ => rfl,fun h => fu3 (mark_of (by decide) h),fun h => fu4 (mark_of (by decide) h),fun _ => rfl,fun _ => rfl,fun h => fu7 (mark_of (by decide) h),fun h => fu8 (mark_of (by decide) h)⟩
   ·have eu0 := fu0 (dep_of 0 hru rfl (by kernel_rfl))
    have eu1 := fu1 (dep_of 1 hru rfl (by kernel_rfl))
    have eu2 := fu2 (dep_of 2 hru rfl (by kernel_rfl))
    have eu3 := fu3 (dep_of 3 hru rfl (by kernel_rfl))
    have eu4 := fu4 (dep_of 4 hru rfl (by kernel_rfl))
    have eu5 := fu5 (dep_of 5 hru rfl (by kernel_rfl))
    have eu6 := fu6 (dep_of 6 hru rfl (by kernel_rfl))
    replace eu0 := eu0.symm
    subst eu0
    replace eu1 := eu1.symm
    subst eu1
    replace eu2 := eu2.symm
    subst eu2
    replace eu3 := eu3.symm
    subst eu3
    replace eu4 := eu4.symm
    subst eu4
    replace eu5 := eu5.symm
    subst eu5
    replace eu6 := eu6.symm
    subst eu6
    refine wpOp_shut (by rfl) (fun K hK => ?_)
    simp only [Act.put,xL4,xL5,xL6]
    go_simp
    exact hK.out _ _ ⟨(.slice (some ⟨g,0,none⟩) T cap),(.agg #[.bool pf,.slice af nf cf,.slice bf mf df]),(.int .i64 (((tw (sgn (cN n q) (cQ n q) (cR n q) f) T).1 : Nat) : Int)),(.slice (some ⟨g,0,none⟩) T cap),(.agg #[.bool pt,.slice at_ nt ct,.slice bt_ mt dt]),(.int .i64 (((tw (sgn (cN n q) (cQ n q) (cR n q) o_) T).1 : Nat) : Int)),(.int .i64 ((((tw (sgn (cN n q) (cQ n q) (cR n q) f) T).1 : Nat) : Int) - (((tw (sgn (cN n q) (cQ n q) (cR n q) o_) T).1 : Nat) : Int))),(.int .i64 ((((tw (sgn (cN n q) (cQ n q) (cR n q) f) T).1 : Nat) : Int) - (((tw (sgn (cN n q) (cQ n q) (cR n q) o_) T).1 : Nat) : Int))),vu8,by simp only [Act.put,xL4,xL5,xL6],hbu,fun _ => rfl,fun _ => rfl,fun _ => rfl,fun _ => rfl,fun _ => rfl,fun _ => rfl,fun _ => rfl,fun _ => rfl,fun h => fu8 (mark_of (by decide) h)⟩
   ·have eu0 := fu0 (dep_of 0 hru rfl (by kernel_rfl))
    have eu1 := fu1 (dep_of 1 hru rfl (by kernel_rfl))
    have eu2 := fu2 (dep_of 2 hru rfl (by kernel_rfl))
    have eu3 := fu3 (dep_of 3 hru rfl (by kernel_rfl))
    have eu4 := fu4 (dep_of 4 hru rfl (by kernel_rfl))
    have eu5 := fu5 (dep_of 5 hru rfl (by kernel_rfl))
    have eu6 := fu6 (dep_of 6 hru rfl (by kernel_rfl))
    have eu7 := fu7 (dep_of 7 hru rfl (by kernel_rfl))
    replace eu0 := eu0.symm
    subst eu0
    replace eu1 := eu1.symm
    subst eu1
    replace eu2 := eu2.symm
    subst eu2
    replace eu3 := eu3.symm
    subst eu3
    replace eu4 := eu4.symm
    subst eu4
    replace eu5 := eu5.symm
    subst eu5
    replace eu6 := eu6.symm
    subst eu6
    replace eu7 := eu7.symm
    subst eu7
    refine wpOp_shut (by rfl) (fun K hK => ?_)
    simp only [Act.put,xL4,xL5,xL6]
    go_simp
    exact hK.out _ _ ⟨(.slice (some ⟨g,0,none⟩) T cap),(.agg #[.bool pf,.slice af nf cf,.slice bf mf df]),(.int .i64 (((tw (sgn (cN n q) (cQ n q) (cR n q) f) T).1 : Nat) : Int)),(.slice (some ⟨g,0,none⟩) T cap),(.agg #[.bool pt,.slice at_ nt ct,.slice bt_ mt dt]),(.int .i64 (((tw (sgn (cN n q) (cQ n q) (cR n q) o_) T).1 : Nat) : Int)),(.int .i64 ((((tw (sgn (cN n q) (cQ n q) (cR n q) f) T).1 : Nat) : Int) - (((tw (sgn (cN n q) (cQ n q) (cR n q) o_) T).1 : Nat) : Int))),(.int .i64 ((((tw (sgn (cN n q) (cQ n q) (cR n q) f) T).1 : Nat) : Int) - (((tw (sgn (cN n q) (cQ n q) (cR n q) o_) T).1 : Nat) : Int))),(.int .i64 0),by simp only [Act.put,xL4,xL5,xL6],hbu,fun _ => rfl,fun _ => rfl,fun _ => rfl,fun _ => rfl,fun _ => rfl,fun _ => rfl,fun _ => rfl,fun _ => rfl,fun _ => rfl⟩
  rintro au Wu1 ⟨vu0,vu1,vu2,vu3,vu4,vu5,vu6,vu7,vu8,rfl,hbu,fu0,fu1,fu2,fu3,fu4,fu5,fu6,fu7,fu8⟩
  have eu0 := (fu0 rfl).symm
  subst eu0
  have eu1 := (fu1 rfl).symm
  subst eu1
  have eu2 := (fu2 rfl).symm
  subst eu2
  have eu3 := (fu3 rfl).symm
  subst eu3
  have eu4 := (fu4 rfl).symm
  subst eu4
  have eu5 := (fu5 rfl).symm
  subst eu5
  have eu6 := (fu6 rfl).symm
  subst eu6
  have eu7 := (fu7 rfl).symm
  subst eu7
  have eu8 := (fu8 rfl).symm
  subst eu8
  clear fu0 fu1 fu2 fu3 fu4 fu5 fu6 fu7 fu8
  have hlVF : w.heap.size < w3.heap.size := VF.lt
  have hlVT : w.heap.size + 1 < w3.heap.size := VT.lt
  simp only [Act.put,xL4,xL5,xL6]
  replace hv := hv.below hbu
  replace hf := hf.below hbu
  replace hto := hto.below hbu
  replace ht := ht.below hbu
  replace CH := CH.below hbu
  replace VF := VF.below hbu
  replace VT := VT.below hbu
  replace BB := BB.trans (hbu.mono BB.size)
  clear hbu
  refine wpAnyH_done (by kernel_rfl) ?_ _
  go_wp2
  (try simp only [Exit.inBlock,Exit.then])
  go_ret2
  have hcn := HCNT.out hle
  exact ⟨ret_pair (a := (((tw (sgn (cN n q) (cQ n q) (cR n q) f) T).1 : Nat) : Int) - (((tw (sgn (cN n q) (cQ n q) (cR n q) o_) T).1 : Nat) : Int)) (b := (cnt : Int)) (by omega),BB⟩
 ·obtain ⟨d,E,hd5,hlen,hsame,fE,tE,hall,hsz,U,hU2,hU9,uC,uone,ucnt⟩ := hcase
  have HUP : Hid (∀ t,t < U → 0 < cN (d + 3) E t) := uC.pos
  have HUC : Hid (IsChainS U (cN (d + 3) E) (cQ (d + 3) E) (cR (d + 3) E) 17000) := uC
  have HFE : Hid (IForm (d + 3) E 22) := fE
  have HCNT : Hid (f ≤ o_ → (tw (sgn (cN (d + 3) E) (cQ (d + 3) E) (cR (d + 3) E) f) U).1 = (tw (sgn (cN (d + 3) E) (cQ (d + 3) E) (cR (d + 3) E) o_) U).1 + cnt) := ucnt
  have hd9 : d + 3 ≤ 9 := by omega
  have htp : cQ n q K (cN n q K - 1) ≠ 0 := HC.out.top K (by omega)
  have hsm := HC.out.small K (by omega)
  have HLEN : Hid (trimN (divQ (cQ n q K) (cN n q K - 1) (n - (cN n q K - 1)) (cQ n q 0)) (n - (cN n q K - 1)) = d + 3) := hlen
  have HSAME : Hid (∀ i,i < d + 3 → divQ (cQ n q K) (cN n q K - 1) (n - (cN n q K - 1)) (cQ n q 0) i = E i) := hsame
  have HALL : Hid (allS n (cQ n q K) (cN n q K - 1) 50000 (n - (cN n q K - 1)) (cQ n q 0)) := hall
  have HSZ : Hid (∀ i,i < cN n q K → qsz (cQ n q K i) ≤ 6000) := hsz
  clear hlen hsame hall hsz uC fE ucnt hK
  rw [HE0.out] at FZ
  obtain ⟨bz,ez,rfl⟩ := FZ.open
  obtain ⟨kl,hkl⟩ : ∃ kl,kl = cN n q K := ⟨_,rfl⟩
  rw [← hkl] at hmore q1 FY htp hsm HLEN HSAME HALL HSZ
  clear hkl
  have m1 : (1 : Int) < (kl : Int) := by omega
  have m2 : decide ((kl : Int) > 1) = true := decide_eq_true m1
  go_wp2_with fail
  clear q1 z1 hTi k1 k0 m1 m2
  refine (pdivide_S _ _ n kl (cQ n q 0) (cQ n q K) 6000 50000 _ FZ FY HSZ.out ht (by omega) hsm (by omega) htp (by omega) (by omega) (by omega) HALL.out).mono ?_
  rintro e w41 ⟨x1,x2,rfl,FX_,FR_,b41⟩
  replace hv := hv.below b41
  replace hf := hf.below b41
  replace hto := hto.below b41
  replace ht := ht.below b41
  replace CH := CH.below b41
  replace FY := FY.below b41
  replace FZ := FZ.below b41
  replace VF := VF.below b41
  replace VT := VT.below b41
  replace BB := BB.trans (b41.mono BB.size)
  clear b41
  have FX := FX_.congr (q' := E) (fun i hi => by rw [HLEN.out] at hi; exact HSAME.out i hi)
  rw [HLEN.out] at FX
  replace FX := FX.1
  clear FX_ FR_
  obtain ⟨ax1,cx1,rfl⟩ := FX.open
  clear FY FZ
  obtain ⟨d3,hd3⟩ : ∃ d3,d3 = d + 3 := ⟨_,rfl⟩
  rw [← hd3] at FX tE HUP HUC HFE HCNT hd9 uone
  rw [← hd3]
  clear HLEN HSAME hd3
  have sE : ∀ i,i < d3 → qsz (E i) ≤ 17000 := fun i hi => Nat.le_trans (HFE.out.sz (by omega) i hi) (by omega)
  have HTE : Hid (trimN E d3 = d3) := tE
  clear tE
  go_wp2_with fail
  refine (plinksS_at _ d3 E U (cN d3 E) (cQ d3 E) (cR d3 E) 17000 _ (FX.q 17000 sE) ht HUC.out hU2 (by omega) (by omega) rfl (fun i _ => rfl) (Rat.mul_one _) rfl (fun i _ => rfl) (Rat.mul_one _) (slope_sz hd9 HFE.out)).mono ?_
  rintro e w42 ⟨u2,rfl,CU,b42⟩
  replace hv := hv.below b42
  replace hf := hf.below b42
  replace hto := hto.below b42
  replace ht := ht.below b42
  replace CH := CH.below b42
  replace FX := FX.below b42
  replace VF := VF.below b42
  replace VT := VT.below b42
  replace BB := BB.trans (b42.mono BB.size)
  clear b42
  obtain ⟨g2,cap2,rfl,hUc,hu63,hcs2⟩ := id CU
  clear hcs2
  go_wp2_with fail
  refine wp_region_until 9 #[true,true,true,true,true,true,true,true,true] (fun aF lsd a' w' => ∃ vu0 vu1 vu2 vu3 vu4 vu5 vu6 vu7 vu8 : Value,a' = ((((((((aF.put (some 44) vu0).put (some 45) vu1).put (some 46) vu2).put (some 47) vu3).put (some 48) vu4).put (some 49) vu5).put (some 50) vu6).put (some 6) vu7).put (some 7) vu8 ∧ Below w42.heap.size w42 w' ∧ (lsd.getD 0 false = true → vu0 = .slice (some ⟨g2,0,none⟩) U cap2) ∧ (lsd.getD 1 false = true → vu1 = .agg #[.bool pf,.slice af nf cf,.slice bf mf df]) ∧ (lsd.getD 2 false = true → vu2 = .int .i64 (((tw (sgn (cN d3 E) (cQ d3 E) (cR d3 E) f) U).1 : Nat) : Int)) ∧ (lsd.getD 3 false = true → vu3 = .slice (some ⟨g2,0,none⟩) U cap2) ∧ (lsd.getD 4 false = true → vu4 = .agg #[.bool pt,.slice at_ nt ct,.slice bt_ mt dt]) ∧ (lsd.getD 5 false = true → vu5 = .int .i64 (((tw (sgn (cN d3 E) (cQ d3 E) (cR d3 E) o_) U).1 : Nat) : Int)) ∧ (lsd.getD 6 false = true → vu6 = .int .i64 ((((tw (sgn (cN d3 E) (cQ d3 E) (cR d3 E) f) U).1 : Nat) : Int) - (((tw (sgn (cN d3 E) (cQ d3 E) (cR d3 E) o_) U).1 : Nat) : Int))) ∧ (lsd.getD 7 false = true → vu7 = .int .i64 ((((tw (sgn (cN d3 E) (cQ d3 E) (cR d3 E) f) U).1 : Nat) : Int) - (((tw (sgn (cN d3 E) (cQ d3 E) (cR d3 E) o_) U).1 : Nat) : Int))) ∧ (lsd.getD 8 false = true → vu8 = .int .i64 0)) (by kernel_rfl) (by decide) (by kernel_rfl) (by rfl) (by kernel_rfl) ?_ ?_ ?_
  ·exact ⟨_,_,_,_,_,_,_,_,_,by simp only [Act.put,xL4,xL5,xL6]; rfl,(Below.refl _ _).drew,fun h => absurd h (fun h => mark_none h),fun h => absurd h (fun h => mark_none h),fun h => absurd h (fun h => mark_none h),fun h => absurd h (fun h => mark_none h),fun h => absurd h (fun h => mark_none h),fun h => absurd h (fun h => mark_none h),fun h => absurd h (fun h => mark_none h),fun h => absurd h (fun h => mark_none h),fun h => absurd h (fun h => mark_none h)⟩
  ·rintro lsd au wn iu hszu ⟨vu0,vu1,vu2,vu3,vu4,vu5,vu6,vu7,vu8,rfl,hbu,fu0,fu1,fu2,fu3,fu4,fu5,fu6,fu7,fu8⟩ himu hru
   rcases (show iu = 0 ∨ iu = 1 ∨ iu = 2 ∨ iu = 3 ∨ iu = 4 ∨ iu = 5 ∨ iu = 6 ∨ iu = 7 ∨ iu = 8 by omega) with rfl | rfl | rfl | rfl | rfl | rfl | rfl | rfl | rfl
   ·refine wpOp_shut (by rfl) (fun K hK => ?_)
    simp only [Act.put,xL4,xL5,xL6]
    go_simp
    exact hK.out _ _ ⟨(.slice (some ⟨g2,0,none⟩) U cap2),vu1,vu2,vu3,vu4,vu5,vu6,vu7,vu8,by simp only [Act.put,xL4,xL5,xL6],hbu,fun _ => rfl,fun h => fu1 (mark_of (by decide) h),fun h => fu2 (mark_of (by decide) h),fun h => fu3 (mark_of (by decide) h),fun h => fu4 (mark_of (by decide) h),fun h => fu5 (mark_of (by decide) h),fun h => fu6 (mark_of (by decide) h),fun h => fu7 (mark_of (by decide) h),fun h => fu8 (mark_of (by decide) h)⟩
   ·refine wpOp_shut (by rfl) (fun K hK => ?_)
    simp only [Act.put,xL4,xL5,xL6]
    obtain ⟨VF_0,VF_1,VF_2,VF_3,VF_4,VF_5⟩ := VF.below hbu
    go_simp
    exact hK.out _ _ ⟨vu0,(.agg #[.bool pf,.slice af nf cf,.slice bf mf df]),vu2,vu3,vu4,vu5,vu6,vu7,vu8,by simp only [Act.put,xL4,xL5,xL6],hbu,fun h => fu0 (mark_of (by decide) h),fun _ => rfl,fun h => fu2 (mark_of (by decide) h),fun h => fu3 (mark_of (by decide) h),fun h => fu4 (mark_of (by decide) h),fun h => fu5 (mark_of (by decide) h),fun h => fu6 (mark_of (by decide) h),fun h => fu7 (mark_of (by decide) h),fun h => fu8 (mark_of (by decide) h)⟩
   ·have eu0 := fu0 (dep_of 0 hru rfl (by kernel_rfl))
    have eu1 := fu1 (dep_of 1 hru rfl (by kernel_rfl))
    replace eu0 := eu0.symm
    subst eu0
    replace eu1 := eu1.symm
    subst eu1
    refine wpOp_shut (by rfl) (fun K hK => ?_)
    simp only [Act.put,xL4,xL5,xL6]
    have hf := hf.below hbu
    have ht := ht.below hbu
    have CU := CU.below hbu
    go_simp
    refine (pturns2_at _ _ U (cN d3 E) (cQ d3 E) (cR d3 E) f 17000 2 _ CU hf ht (by omega) (links_sz hd9 HFE.out HUP.out) (fun k hk => HUC.out.szR k hk) (by omega) (fun k hk => HUC.out.small k hk) (by omega) (by omega) (links_ev hd9 HFE.out HUP.out sf)).mono ?_
    rintro eu wx ⟨rfl,bu⟩
    go_wp2_with fail
    have hbu2 := hbu.trans (bu.mono hbu.size)
    exact hK.out _ _ ⟨(.slice (some ⟨g2,0,none⟩) U cap2),(.agg #[.bool pf,.slice af nf cf,.slice bf mf df]),(.int .i64 (((tw (sgn (cN d3 E) (cQ d3 E) (cR d3 E) f) U).1 : Nat) : Int)),vu3,vu4,vu5,vu6,vu7,vu8,by simp only [Act.put,xL4,xL5,xL6],hbu2,fun _ => rfl,fun _ => rfl,fun _ => rfl,fun h => fu3 (mark_of (by decide) h),fun h => fu4 (mark_of (by decide) h),fun h => fu5 (mark_of (by decide) h),fun h => fu6 (mark_of (by decide) h),fun h => fu7 (mark_of (by decide) h),fun h => fu8 (mark_of (by decide) h)⟩
   ·refine wpOp_shut (by rfl) (fun K hK => ?_)
    simp only [Act.put,xL4,xL5,xL6]
    go_simp
    exact hK.out _ _ ⟨vu0,vu1,vu2,(.slice (some ⟨g2,0,none⟩) U cap2),vu4,vu5,vu6,vu7,vu8,by simp only [Act.put,xL4,xL5,xL6],hbu,fun h => fu0 (mark_of (by decide) h),fun h => fu1 (mark_of (by decide) h),fun h => fu2 (mark_of (by decide) h),fun _ => rfl,fun h => fu4 (mark_of (by decide) h),fun h => fu5 (mark_of (by decide) h),fun h => fu6 (mark_of (by decide) h),fun h => fu7 (mark_of (by decide) h),fun h => fu8 (mark_of (by decide) h)⟩
   ·refine wpOp_shut (by rfl) (fun K hK => ?_)
    simp only [Act.put,xL4,xL5,xL6]
    obtain ⟨VT_0,VT_1,VT_2,VT_3,VT_4,VT_5⟩ := VT.below hbu
    go_simp
    exact hK.out _ _ ⟨vu0,vu1,vu2,vu3,(.agg #[.bool pt,.slice at_ nt ct,.slice bt_ mt dt]),vu5,vu6,vu7,vu8,by simp only [Act.put,xL4,xL5,xL6],hbu,fun h => fu0 (mark_of (by decide) h),fun h => fu1 (mark_of (by decide) h),fun h => fu2 (mark_of (by decide) h),fun h => fu3 (mark_of (by decide) h),fun _ => rfl,fun h => fu5 (mark_of (by decide) h),fun h => fu6 (mark_of (by decide) h),fun h => fu7 (mark_of (by decide) h),fun h => fu8 (mark_of (by decide) h)⟩
   ·have eu2 := fu2 (dep_of 2 hru rfl (by kernel_rfl))
    have eu3 := fu3 (dep_of 3 hru rfl (by kernel_rfl))
    have eu4 := fu4 (dep_of 4 hru rfl (by kernel_rfl))
    replace eu2 := eu2.symm
    subst eu2
    replace eu3 := eu3.symm
    subst eu3
    replace eu4 := eu4.symm
    subst eu4
    refine wpOp_shut (by rfl) (fun K hK => ?_)
    simp only [Act.put,xL4,xL5,xL6]
    have hto := hto.below hbu
    have ht := ht.below hbu
    have CU := CU.below hbu
    go_simp
    refine (pturns2_at _ _ U (cN d3 E) (cQ d3 E) (cR d3 E) o_ 17000 2 _ CU hto ht (by omega) (links_sz hd9 HFE.out HUP.out) (fun k hk => HUC.out.szR k hk) (by omega) (fun k hk => HUC.out.small k hk) (by omega) (by omega) (links_ev hd9 HFE.out HUP.out sto)).mono ?_
    rintro eu wx ⟨rfl,bu⟩
    go_wp2_with fail
    have hbu2 := hbu.trans (bu.mono hbu.size)
    exact hK.out _ _ ⟨vu0,vu1,(.int .i64 (((tw (sgn (cN d3 E) (cQ d3 E) (cR d3 E) f) U).1 : Nat) : Int)),(.slice (some ⟨g2,0,none⟩) U cap2),(.agg #[.bool pt,.slice at_ nt ct,.slice bt_ mt dt]),(.int .i64 (((tw (sgn (cN d3 E) (cQ d3 E) (cR d3 E) o_) U).1 : Nat) : Int)),vu6,vu7,vu8,by simp only [Act.put,xL4,xL5,xL6],hbu2,fun h => fu0 (mark_of (by decide) h),fun h => fu1 (mark_of (by decide) h),fun _ => rfl,fun _ => rfl,fun _ => rfl,fun _ => rfl,fun h => fu6 (mark_of (by decide) h),fun h => fu7 (mark_of (by decide) h),fun h => fu8 (mark_of (by decide) h)⟩
   ·have eu2 := fu2 (dep_of 2 hru rfl (by kernel_rfl))
    have eu5 := fu5 (dep_of 5 hru rfl (by kernel_rfl))
    replace eu2 := eu2.symm
    subst eu2
    replace eu5 := eu5.symm
    subst eu5
    refine wpOp_shut (by rfl) (fun K hK => ?_)
    simp only [Act.put,xL4,xL5,xL6]
    have hwr : IntKind.i64.wrap ((((tw (sgn (cN d3 E) (cQ d3 E) (cR d3 E) f) U).1 : Nat) : Int) - (((tw (sgn (cN d3 E) (cQ d3 E) (cR d3 E) o_) U).1 : Nat) : Int)) = (((tw (sgn (cN d3 E) (cQ d3 E) (cR d3 E) f) U).1 : Nat) : Int) - (((tw (sgn (cN d3 E) (cQ d3 E) (cR d3 E) o_) U).1 : Nat) : Int) := by have := tw_le (sgn (cN d3 E) (cQ d3 E) (cR d3 E) f) U; have := tw_le (sgn (cN d3 E) (cQ d3 E) (cR d3 E) o_) U; rw [IntKind.wrap_i64]; omega
    go_simp
    exact hK.out _ _ ⟨vu0,vu1,(.int .i64 (((tw (sgn (cN d3 E) (cQ d3 E) (cR d3 E) f) U).1 : Nat) : Int)),vu3,vu4,(.int .i64 (((tw (sgn (cN d3 E) (cQ d3 E) (cR d3 E) o_) U).1 : Nat) : Int)),(.int .i64 ((((tw (sgn (cN d3 E) (cQ d3 E) (cR d3 E) f) U).1 : Nat) : Int) - (((tw (sgn (cN d3 E) (cQ d3 E) (cR d3 E) o_) U).1 : Nat) : Int))),vu7,vu8,by simp only [Act.put,xL4,xL5,xL6],hbu,fun h => fu0 (mark_of (by decide) h),fun h => fu1 (mark_of (by decide) h),fun _ => rfl,fun h => fu3 (mark_of (by decide) h),fun h => fu4 (mark_of (by decide) h),fun _ => rfl,fun _ => rfl,fun h => fu7 (mark_of (by decide) h),fun h => fu8 (mark_of (by decide) h)⟩
   ·have eu0 := fu0 (dep_of 0 hru rfl (by kernel_rfl))
    have eu1 := fu1 (dep_of 1 hru rfl (by kernel_rfl))
    have eu2 := fu2 (dep_of 2 hru rfl (by kernel_rfl))
    have eu3 := fu3 (dep_of 3 hru rfl (by kernel_rfl))
    have eu4 := fu4 (dep_of 4 hru rfl (by kernel_rfl))
    have eu5 := fu5 (dep_of 5 hru rfl (by kernel_rfl))
    have eu6 := fu6 (dep_of 6 hru rfl (by kernel_rfl))
    replace eu0 := eu0.symm
    subst eu0
    replace eu1 := eu1.symm
    subst eu1
    replace eu2 := eu2.symm
    subst eu2
    replace eu3 := eu3.symm
    subst eu3
    replace eu4 := eu4.symm
    subst eu4
    replace eu5 := eu5.symm
    subst eu5
    replace eu6 := eu6.symm
    subst eu6
    refine wpOp_shut (by rfl) (fun K hK => ?_)
    simp only [Act.put,xL4,xL5,xL6]
    go_simp
    exact hK.out _ _ ⟨(.slice (some ⟨g2,0,none⟩) U cap2),(.agg #[.bool pf,.slice af nf cf,.slice bf mf df]),(.int .i64 (((tw (sgn (cN d3 E) (cQ d3 E) (cR d3 E) f) U).1 : Nat) : Int)),(.slice (some ⟨g2,0,none⟩) U cap2),(.agg #[.bool pt,.slice at_ nt ct,.slice bt_ mt dt]),(.int .i64 (((tw (sgn (cN d3 E) (cQ d3 E) (cR d3 E) o_) U).1 : Nat) : Int)),(.int .i64 ((((tw (sgn (cN d3 E) (cQ d3 E) (cR d3 E) f) U).1 : Nat) : Int) - (((tw (sgn (cN d3 E) (cQ d3 E) (cR d3 E) o_) U).1 : Nat) : Int))),(.int .i64 ((((tw (sgn (cN d3 E) (cQ d3 E) (cR d3 E) f) U).1 : Nat) : Int) - (((tw (sgn (cN d3 E) (cQ d3 E) (cR d3 E) o_) U).1 : Nat) : Int))),vu8,by simp only [Act.put,xL4,xL5,xL6],hbu,fun _ => rfl,fun _ => rfl,fun _ => rfl,fun _ => rfl,fun _ => rfl,fun _ => rfl,fun _ => rfl,fun _ => rfl,fun h => fu8 (mark_of (by decide) h)⟩
   ·have eu0 := fu0 (dep_of 0 hru rfl (by kernel_rfl))
    have eu1 := fu1 (dep_of 1 hru rfl (by kernel_rfl))
    have eu2 := fu2 (dep_of 2 hru rfl (by kernel_rfl))
    have eu3 := fu3 (dep_of 3 hru rfl (by kernel_rfl))
    have eu4 := fu4 (dep_of 4 hru rfl (by kernel_rfl))
    have eu5 := fu5 (dep_of 5 hru rfl (by kernel_rfl))
    have eu6 := fu6 (dep_of 6 hru rfl (by kernel_rfl))
    have eu7 := fu7 (dep_of 7 hru rfl (by kernel_rfl))
    replace eu0 := eu0.symm
    subst eu0
    replace eu1 := eu1.symm
    subst eu1
    replace eu2 := eu2.symm
    subst eu2
    replace eu3 := eu3.symm
    subst eu3
    replace eu4 := eu4.symm
    subst eu4
    replace eu5 := eu5.symm
    subst eu5
    replace eu6 := eu6.symm
    subst eu6
    replace eu7 := eu7.symm
    subst eu7
    refine wpOp_shut (by rfl) (fun K hK => ?_)
    simp only [Act.put,xL4,xL5,xL6]
    go_simp
    exact hK.out _ _ ⟨(.slice (some ⟨g2,0,none⟩) U cap2),(.agg #[.bool pf,.slice af nf cf,.slice bf mf df]),(.int .i64 (((tw (sgn (cN d3 E) (cQ d3 E) (cR d3 E) f) U).1 : Nat) : Int)),(.slice (some ⟨g2,0,none⟩) U cap2),(.agg #[.bool pt,.slice at_ nt ct,.slice bt_ mt dt]),(.int .i64 (((tw (sgn (cN d3 E) (cQ d3 E) (cR d3 E) o_) U).1 : Nat) : Int)),(.int .i64 ((((tw (sgn (cN d3 E) (cQ d3 E) (cR d3 E) f) U).1 : Nat) : Int) - (((tw (sgn (cN d3 E) (cQ d3 E) (cR d3 E) o_) U).1 : Nat) : Int))),(.int .i64 ((((tw (sgn (cN d3 E) (cQ d3 E) (cR d3 E) f) U).1 : Nat) : Int) - (((tw (sgn (cN d3 E) (cQ d3 E) (cR d3 E) o_) U).1 : Nat) : Int))),(.int .i64 0),by simp only [Act.put,xL4,xL5,xL6],hbu,fun _ => rfl,fun _ => rfl,fun _ => rfl,fun _ => rfl,fun _ => rfl,fun _ => rfl,fun _ => rfl,fun _ => rfl,fun _ => rfl⟩
  rintro au Wu41 ⟨vu0,vu1,vu2,vu3,vu4,vu5,vu6,vu7,vu8,rfl,hbu,fu0,fu1,fu2,fu3,fu4,fu5,fu6,fu7,fu8⟩
  have eu0 := (fu0 rfl).symm
  subst eu0
  have eu1 := (fu1 rfl).symm
  subst eu1
  have eu2 := (fu2 rfl).symm
  subst eu2
  have eu3 := (fu3 rfl).symm
  subst eu3
  have eu4 := (fu4 rfl).symm
  subst eu4
  have eu5 := (fu5 rfl).symm
  subst eu5
  have eu6 := (fu6 rfl).symm
  subst eu6
  have eu7 := (fu7 rfl).symm
  subst eu7
  have eu8 := (fu8 rfl).symm
  subst eu8
  clear fu0 fu1 fu2 fu3 fu4 fu5 fu6 fu7 fu8
  have hlVF : w.heap.size < w42.heap.size := VF.lt
  have hlVT : w.heap.size + 1 < w42.heap.size := VT.lt
  simp only [Act.put,xL4,xL5,xL6]
  replace hv := hv.below hbu
  replace hf := hf.below hbu
  replace hto := hto.below hbu
  replace ht := ht.below hbu
  replace CH := CH.below hbu
  replace FX := FX.below hbu
  replace CU := CU.below hbu
  replace VF := VF.below hbu
  replace VT := VT.below hbu
  replace BB := BB.trans (hbu.mono BB.size)
  clear hbu
  refine wpAnyH_done (by kernel_rfl) ?_ _
  go_wp2
  (try simp only [Exit.inBlock,Exit.then])
  go_ret2
  have hcn := HCNT.out hle
  exact ⟨ret_pair (a := (((tw (sgn (cN d3 E) (cQ d3 E) (cR d3 E) f) U).1 : Nat) : Int) - (((tw (sgn (cN d3 E) (cQ d3 E) (cR d3 E) o_) U).1 : Nat) : Int)) (b := (cnt : Int)) (by omega),BB⟩

end Go.Proofs.YtieeneaebjihlaaGreatDoor

namespace Go.Proofs.YtieeneaebjihlaaGreatDoor
open Go.RowKit
set_option linter.unusedVariables false

def tws (two : Nat → Bool) : Nat → Nat
 | 0 => 0
 | m + 1 => tws two m + (if two m = true then 1 else 0)
theorem tws_one (t : Int) : ∀ m,tws (fun i => decide ((i : Int) = t)) m ≤ 1 ∧ ((m : Int) ≤ t → tws (fun i => decide ((i : Int) = t)) m = 0)
 | 0 => ⟨by show 0 ≤ 1; omega,fun _ => rfl⟩
 | m + 1 => by
  obtain ⟨h1,h2⟩ := tws_one t m
  show tws (fun i => decide ((i : Int) = t)) m + (if decide ((m : Int) = t) = true then 1 else 0) ≤ 1 ∧ (((m + 1 : Nat) : Int) ≤ t → tws (fun i => decide ((i : Int) = t)) m + (if decide ((m : Int) = t) = true then 1 else 0) = 0)
  by_cases e : (m : Int) = t
  ·rw [if_pos (decide_eq_true e)]
   have := h2 (by omega)
   exact ⟨by omega,fun h => by omega⟩
  ·rw [if_neg (by rw [decide_eq_false e]; decide)]
   exact ⟨by omega,fun h => by have := h2 (by omega); omega⟩
/-- What the product is after so many factors. -/
structure PSt (r : Nat → Rat) (two : Nat → Bool) (c : Rat) (i l : Nat) (P : Nat → Rat) : Prop where
 eq : P = sc (pl r two i) c
 len : PolyL P l (3 * c)
 form : IForm l P (3 + 3 * (i + tws two i))
 long : l = 3 + i + tws two i
theorem PSt.start (r : Nat → Rat) (two : Nat → Bool) {c : Rat} (hc : qsz c ≤ 2) : PSt r two c 0 3 (sc w3 c) :=
 ⟨rfl,PolyL.sc PolyL.w3 c,(prd_form r 0 (fun j hj => by omega)).scale hc,rfl⟩
theorem pq_lnr (t : Rat) : co 2 (pq (-t) 1) = lnr t := by
 refine funext (fun i => ?_)
 show co 2 (pq (-t) 1) i = co 2 (lin t) i
 unfold co pq lin
 rfl
theorem mul_lin {l h : Nat} {P : Nat → Rat} {t u : Rat} (hP : PolyL P l u) (hu : u ≠ 0) (f : IForm l P h) (ht : qsz t ≤ 2) : MulLen l P 2 (pq (-t) 1) = l + 1 ∧ conv l P 2 (pq (-t) 1) = cmul P (lnr t) ∧ PolyL (cmul P (lnr t)) (l + 1) u ∧ IForm (l + 1) (cmul P (lnr t)) (h + 3) := by
 have hL : PolyL (cmul P (lnr t)) (l + 1) u := by
  have := hP.mul (PolyL.lnr t)
  rw [Rat.mul_one,show l + 2 - 1 = l + 1 by omega] at this
  exact this
 have hc : conv l P 2 (pq (-t) 1) = cmul P (lnr t) := by
  show cmul (co l P) (co 2 (pq (-t) 1)) = _
  rw [co_all_of hP.far,pq_lnr]
 have h1 : trimN P l = l := hP.trim hu (Nat.le_refl _)
 have h2 : trimN (pq (-t) 1) 2 = 2 := trimN_full _ _ (fun _ => by show (1 : Rat) ≠ 0; decide +kernel)
 have hp := hP.pos
 refine ⟨?_,hc,hL,f.lnr (hP.far l (Nat.le_refl _)) ht⟩
 unfold MulLen
 rw [h1,h2,if_neg (by omega),hc]
 exact hL.trim hu (by omega)
theorem PSt.once {r : Nat → Rat} {two : Nat → Bool} {c : Rat} {i l : Nat} {P : Nat → Rat} (h : PSt r two c i l P) (hc : c ≠ 0) (hr : qsz (r i) ≤ 2) (ht : two i = false) : MulLen l P 2 (pq (-(r i)) 1) = l + 1 ∧ conv l P 2 (pq (-(r i)) 1) = cmul P (lnr (r i)) ∧ PSt r two c (i + 1) (l + 1) (cmul P (lnr (r i))) := by
 have h3c : (3 : Rat) * c ≠ 0 := fun e => by
  rcases Rat.mul_eq_zero.1 e with g | g
  ·exact absurd g (by decide +kernel)
  ·exact hc g
 obtain ⟨a1,a2,a3,a4⟩ := mul_lin h.len h3c h.form hr
 have ht' : tws two (i + 1) = tws two i := by show tws two i + (if two i = true then 1 else 0) = _; rw [if_neg (by rw [ht]; decide)]; rfl
 refine ⟨a1,a2,?_,a3,by rw [ht']; exact a4.le (by omega),by rw [ht',h.long]; omega⟩
 show _ = sc (if two i = true then cmul (cmul (pl r two i) (lnr (r i))) (lnr (r i)) else cmul (pl r two i) (lnr (r i))) c
 rw [if_neg (by rw [ht]; decide),h.eq,cm_sc]
theorem PSt.twice {r : Nat → Rat} {two : Nat → Bool} {c : Rat} {i l : Nat} {P : Nat → Rat} (h : PSt r two c i l P) (hc : c ≠ 0) (hr : qsz (r i) ≤ 2) (ht : two i = true) : MulLen l P 2 (pq (-(r i)) 1) = l + 1 ∧ conv l P 2 (pq (-(r i)) 1) = cmul P (lnr (r i)) ∧ IForm (l + 1) (cmul P (lnr (r i))) (3 + 3 * (i + tws two i) + 3) ∧ MulLen (l + 1) (cmul P (lnr (r i))) 2 (pq (-(r i)) 1) = l + 2 ∧ conv (l + 1) (cmul P (lnr (r i))) 2 (pq (-(r i)) 1) = cmul (cmul P (lnr (r i))) (lnr (r i)) ∧ PSt r two c (i + 1) (l + 2) (cmul (cmul P (lnr (r i))) (lnr (r i))) := by
 have h3c : (3 : Rat) * c ≠ 0 := fun e => by
  rcases Rat.mul_eq_zero.1 e with g | g
  ·exact absurd g (by decide +kernel)
  ·exact hc g
 obtain ⟨a1,a2,a3,a4⟩ := mul_lin h.len h3c h.form hr
 obtain ⟨b1,b2,b3,b4⟩ := mul_lin a3 h3c a4 hr
 have ht' : tws two (i + 1) = tws two i + 1 := by show tws two i + (if two i = true then 1 else 0) = _; rw [if_pos ht]
 refine ⟨a1,a2,a4,b1,b2,?_,b3,by rw [ht']; exact b4.le (by omega),by rw [ht',h.long]; omega⟩
 show _ = sc (if two i = true then cmul (cmul (pl r two i) (lnr (r i))) (lnr (r i)) else cmul (pl r two i) (lnr (r i))) c
 rw [if_pos ht,h.eq,cm_sc,cm_sc]
/-- Was a number there before? -/
def seenK (r : Nat → Rat) (i : Nat) : Nat → Bool
 | 0 => false
 | k + 1 => seenK r i k || decide (r k = r i)
theorem seenK_iff (r : Nat → Rat) (i : Nat) : ∀ k,seenK r i k = true ↔ ∃ j,j < k ∧ r j = r i
 | 0 => ⟨fun h => absurd h (by show ¬ false = true; decide),fun ⟨j,h,_⟩ => by omega⟩
 | k + 1 => by
  show (seenK r i k || decide (r k = r i)) = true ↔ _
  rw [Bool.or_eq_true,seenK_iff r i k,decide_eq_true_eq]
  constructor
  ·rintro (⟨j,hj,e⟩ | e)
   ·exact ⟨j,by omega,e⟩
   ·exact ⟨k,by omega,e⟩
  ·rintro ⟨j,hj,e⟩
   by_cases h : j = k
   ·exact .inr (h ▸ e)
   ·exact .inl ⟨j,by omega,e⟩
def seenF (r : Nat → Rat) (i : Nat) : Bool := seenK r i i
theorem PSt.roots {r : Nat → Rat} {two : Nat → Bool} {c : Rat} {m l : Nat} {P : Nat → Rat} (h : PSt r two c m l P) (hc : c ≠ 0) (hm : m ≤ 5) (ht : tws two m ≤ 1) (hr : ∀ i,i < m → qsz (r i) ≤ 2) (f o : Rat) : l ≤ 9 ∧ 0 < l ∧ trimN P l = l ∧ IForm l P 22 ∧ RootsM l P f o (dcnt r f o (seenF r) m) := by
 have h3c : (3 : Rat) * c ≠ 0 := fun e => by
  rcases Rat.mul_eq_zero.1 e with g | g
  ·exact absurd g (by decide +kernel)
  ·exact hc g
 have hl := h.long
 have fq : IForm l P 22 := h.form.le (by omega)
 refine ⟨by omega,by omega,h.len.trim h3c (Nat.le_refl _),fq,?_⟩
 obtain ⟨d,s,g,h1,h2,h3,h4,h5,h6⟩ := listed r two f o (seenF r) m (fun i hi => seenK_iff r i i)
 rw [← h5]
 exact roots_math (by omega) hc h2 (fun j hj => by obtain ⟨i,hi,e⟩ := h4 j hj; rw [e]; exact hr i hi) (by rw [← h6]; exact h.eq) h.len (by omega) fq
theorem dcnt_le (r : Nat → Rat) (x y : Rat) (seen : Nat → Bool) : ∀ m,dcnt r x y seen m ≤ m
 | 0 => Nat.le_refl _
 | m + 1 => by
  have := dcnt_le r x y seen m
  show dcnt r x y seen m + (if seen m = false ∧ x < r m ∧ r m ≤ y then 1 else 0) ≤ m + 1
  split <;> omega
theorem dcnt_yes {r : Nat → Rat} {x y : Rat} {seen : Nat → Bool} {m : Nat} (h1 : seen m = false) (h2 : 0 < cmpQ (r m) x) (h3 : cmpQ (r m) y ≤ 0) : dcnt r x y seen (m + 1) = dcnt r x y seen m + 1 := by
 show dcnt r x y seen m + (if seen m = false ∧ x < r m ∧ r m ≤ y then 1 else 0) = _
 rw [if_pos ⟨h1,of_decide_eq_true ((cmpQ_pos _ _).symm.trans (decide_eq_true h2)),of_decide_eq_true ((cmpQ_le _ _).symm.trans (decide_eq_true h3))⟩]
theorem dcnt_no {r : Nat → Rat} {x y : Rat} {seen : Nat → Bool} {m : Nat} (h : ¬ (seen m = false ∧ 0 < cmpQ (r m) x ∧ cmpQ (r m) y ≤ 0)) : dcnt r x y seen (m + 1) = dcnt r x y seen m := by
 show dcnt r x y seen m + (if seen m = false ∧ x < r m ∧ r m ≤ y then 1 else 0) = _
 rw [if_neg (fun ⟨a,b,c⟩ => h ⟨a,of_decide_eq_true ((cmpQ_pos _ _).trans (decide_eq_true b)),of_decide_eq_true ((cmpQ_le _ _).trans (decide_eq_true c))⟩)]
 rfl
theorem frow_congr {w : World} {v : Value} {n : Nat} {q q' : Nat → Rat} (h : FRow w v n q) (e : ∀ i,i < n → q i = q' i) : FRow w v n q' := by
 obtain ⟨el,h1,h2⟩ := h
 exact ⟨el,h1,fun i hi => e i hi ▸ h2 i hi⟩
theorem three_one (i : Nat) (hi : i < 3) : pr ((1 : Int) : Rat) 0 ((3 : Int) : Rat) i = sc w3 1 i := by
 rcases (by omega : i = 0 ∨ i = 1 ∨ i = 2) with rfl | rfl | rfl <;> decide +kernel
theorem three_by (c : Rat) (i : Nat) (hi : i < 3) : pr ((1 : Int) : Rat) 0 ((3 : Int) : Rat) i * c = sc w3 c i := by
 rw [three_one i hi]
 show w3 i * 1 * c = w3 i * c
 rw [Rat.mul_one]
theorem three_len {c : Rat} (hc : c ≠ 0) : trimN (fun i => pr ((1 : Int) : Rat) 0 ((3 : Int) : Rat) i * c) 3 = 3 := trimN_full _ _ (fun _ => by
 rw [three_by c 2 (by omega)]
 show (3 : Rat) * c ≠ 0
 intro e
 rcases Rat.mul_eq_zero.1 e with g | g
 ·exact absurd g (by decide +kernel)
 ·exact hc g)
theorem three_sz : ∀ i,i < 3 → qsz (pr ((1 : Int) : Rat) 0 ((3 : Int) : Rat) i) ≤ 2 := by decide +kernel

end Go.Proofs.YtieeneaebjihlaaGreatDoor
