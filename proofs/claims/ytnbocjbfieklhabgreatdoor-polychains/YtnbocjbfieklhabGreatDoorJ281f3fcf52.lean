/-
  Texts of mine, joined: what lies beneath the statement.
-/
import Derived.Test.YtnbocjbfieklhabGreatDoorJ230f7b8b14
import Derived.Test.YtnbocjbfieklhabGreatDoorJbf2849fb3a
import Derived.Test.YtnbocjbfieklhabGreatDoorJ8dfbbdbc7c
import Derived.Test.YtnbocjbfieklhabGreatDoorJ7b765e809a
import Derived.Deep.Cut
import Derived.Deep.CutRange
namespace Go.Proofs.YtnbocjbfieklhabGreatDoor
open Go.RowKit
set_option linter.unusedVariables false
set_option linter.unusedSimpArgs false

/-- A row that is a power of another one. -/
def PowRow (w : World) (v : Value) (n : Nat) (q : Nat → Rat) (k S : Nat) : Prop := ∃ (l : Nat) (R : Nat → Rat), FRow w v l R ∧ l ≤ 1 + 5 * k ∧ (0 < l → R (l - 1) ≠ 0) ∧ (∀ i, co l R i = cpow (co n q) k i) ∧ ∀ i, i < l → qsz (R i) ≤ S
theorem PowRow.below {w w' : World} {v : Value} {n : Nat} {q : Nat → Rat} {k S : Nat} (h : PowRow w v n q k S) (hb : Below w.heap.size w w') : PowRow w' v n q k S := let ⟨l, R, h1, h2⟩ := h; ⟨l, R, h1.below hb, h2⟩

theorem trimN_full (q : Nat → Rat) : ∀ n, (0 < n → q (n - 1) ≠ 0) → trimN q n = n
 | 0, _ => rfl
 | n + 1, h => by
  have := h (by omega)
  simp only [Nat.add_sub_cancel] at this
  show (if q n = 0 then trimN q n else n + 1) = n + 1
  rw [if_neg this]
theorem allS_div {la lb ha hb S : Nat} {a b : Nat → Rat} (fa : IForm la a ha) (fb : IForm lb b hb) (h0 : 0 < lb) (htop : b (lb - 1) ≠ 0) (h1 : 1 ≤ ha) (hS : ha + (la - (lb - 1)) * (hb + 1) ≤ S) : allS la b (lb - 1) S (la - (lb - 1)) a := by
 by_cases h : la - (lb - 1) = 0
 ·rw [h]; intro i hi; exact Nat.le_trans (fa.sz h1 i hi) (by omega)
 ·exact allS_form (fb.less (by omega)) htop _ ha a fa h1 (by omega) hS
theorem form_div {la lb ha hb : Nat} {a b : Nat → Rat} (fa : IForm la a ha) (fb : IForm lb b hb) (h0 : 0 < lb) (htop : b (lb - 1) ≠ 0) : IForm la (divR b (lb - 1) (la - (lb - 1)) a) (ha + (la - (lb - 1)) * (hb + 1)) := by
 by_cases h : la - (lb - 1) = 0
 ·rw [h]; exact fa.le (by omega)
 ·exact IForm.div (fb.less (by omega)) htop _ ha a fa (by omega)

set_option maxRecDepth 20000 in
set_option maxHeartbeats 4000000 in
theorem plinkq_some (v x : Value) (n L X : Nat) (q : Nat → Rat) (r : Rat) (w : World) (hv : QRow w v n q L) (hx : RepQ w x r) (sx : qsz r ≤ X) (ht : Tab w) (hL : 1 ≤ L) (hn1 : n ≤ 1000) (hS : L + X ≤ 40000) (h0 : 0 < trimN q n) :
  Calls Tryz.prog 46 #[v, x] w fun e w' => ∃ y p3 a3 n3 c3 bo3 m3 d3, e = .returned (.agg #[y, .bool p3, .slice a3 n3 c3, .slice bo3 m3 d3]) ∧ FNew w.heap.size w' y (trimN q n) (fun i => q i * (q (trimN q n - 1))⁻¹) ∧ RepQ w' (.agg #[.bool p3, .slice a3 n3 c3, .slice bo3 m3 d3]) (q (trimN q n - 1) * r) ∧ Below w.heap.size w w' := by
 obtain ⟨px, ax, nx, cx, bx, mx, dx, rfl⟩ := hx.open
 have sq : ∀ i, i < n → qsz (q i) ≤ L := fun i hi => hv.sz hL i hi
 obtain ⟨ao, c, rfl, _, _, _⟩ := hv.open
 have BB : Below w.heap.size w w := Below.refl _ _
 obtain ⟨Wb0, hW0, hS0, hL0, VX⟩ := V3.lay w 39 (.bool px) (.slice ax nx cx) (.slice bx mx dx)
 replace hv := hv.below hL0
 replace hx := hx.below hL0
 replace ht := ht.below hL0
 replace BB := BB.trans (hL0.mono BB.size)
 clear hL0
 obtain ⟨Wb1, hW1, hS1, hL1, VL⟩ := V4.lay Wb0 54 (.slice none 0 0) (.bool false) (.slice none 0 0) (.slice none 0 0)
 rw [hS0] at VL hS1
 replace hv := hv.below hL1
 replace hx := hx.below hL1
 replace ht := ht.below hL1
 replace VX := VX.below hL1
 replace BB := BB.trans (hL1.mono BB.size)
 clear hL1
 go_enter Tryz.func46, Tryz.ntmps46
 go_wp2_with fail
 rw [← hW0]
 rw [← hW1]
 clear hW0 hW1 hS0 hS1
 refine (ptrim_at _ n q L _ hv hL (by omega)).mono ?_
 rintro e w1 ⟨ao2, c2, hvv, rfl, b1⟩
 replace hv := hv.below b1
 replace hx := hx.below b1
 replace ht := ht.below b1
 replace VX := VX.below b1
 replace VL := VL.below b1
 replace BB := BB.trans (b1.mono BB.size)
 clear b1
 cases hvv
 have hle := trimN_le q n
 obtain ⟨ao3, c3, hv3, FP⟩ := QRow.pre hv (trimN q n) hle
 cases hv3
 have htop := trimN_idem q n
 clear hv
 obtain ⟨m, hm⟩ : ∃ m, m = trimN q n := ⟨_, rfl⟩
 rw [← hm] at FP hle h0 htop ⊢
 have HM : Hid (m = trimN q n) := hm
 clear hm
 have h0i : ¬ (m : Int) = 0 := by omega
 have e1_ : ((m : Int) == 0) = false := by simp; omega
 go_wp2_with fail
 (try rw [e1_])
 refine wp_region_until 6 #[true, true, true, true, true, true, false, false] (fun aF lsd a' w' => ∃ vu0 vu1 vu2 vu3 vu4 vu5 : Value, a' = (((((aF.put (some 11) vu0).put (some 12) vu1).put (some 13) vu2).put (some 14) vu3).put (some 15) vu4).put (some 16) vu5 ∧ Below w1.heap.size w1 w' ∧ (lsd.getD 0 false = true → vu0 = .slice ao m m) ∧ (lsd.getD 1 false = true → FNew w1.heap.size w' vu1 m (fun i => q i * (q (m - 1))⁻¹)) ∧ (lsd.getD 2 false = true → vu2 = .slice ao m m) ∧ (lsd.getD 3 false = true → RatAt w' vu3 (q (m - 1)) L) ∧ (lsd.getD 4 false = true → vu4 = .agg #[.bool px, .slice ax nx cx, .slice bx mx dx]) ∧ (lsd.getD 5 false = true → RepQ w' vu5 (q (m - 1) * r))) (by kernel_rfl) (by decide) (by kernel_rfl) (by rfl) (by kernel_rfl) ?_ ?_ ?_
 ·exact ⟨_, _, _, _, _, _, by simp only [Act.put, xL4, xL5, xL6]; rfl, (Below.refl _ _).drew, fun h => absurd h (fun h => mark_none h), fun h => absurd h (fun h => mark_none h), fun h => absurd h (fun h => mark_none h), fun h => absurd h (fun h => mark_none h), fun h => absurd h (fun h => mark_none h), fun h => absurd h (fun h => mark_none h)⟩
 ·rintro lsd au wn iu hszu ⟨vu0, vu1, vu2, vu3, vu4, vu5, rfl, hbu, fu0, fu1, fu2, fu3, fu4, fu5⟩ himu hru
  rcases (show iu = 0 ∨ iu = 1 ∨ iu = 2 ∨ iu = 3 ∨ iu = 4 ∨ iu = 5 by omega) with rfl | rfl | rfl | rfl | rfl | rfl
  ·refine wpOp_shut (by rfl) (fun K hK => ?_)
   simp only [Act.put, xL4, xL5, xL6]
   go_simp
   exact hK.out _ _ ⟨(.slice ao m m), vu1, vu2, vu3, vu4, vu5, by simp only [Act.put, xL4, xL5, xL6], hbu, fun _ => rfl, fun h => fu1 (mark_of (by decide) h), fun h => fu2 (mark_of (by decide) h), fun h => fu3 (mark_of (by decide) h), fun h => fu4 (mark_of (by decide) h), fun h => fu5 (mark_of (by decide) h)⟩
  ·have eu0 := fu0 (dep_of 0 hru rfl (by kernel_rfl))
   replace eu0 := eu0.symm
   subst eu0
   refine wpOp_shut (by rfl) (fun K hK => ?_)
   simp only [Act.put, xL4, xL5, xL6]
   have ht := ht.below hbu
   have FP := FP.below hbu
   go_simp
   refine (pmonic_at _ m q L _ FP ht (by omega) hL (by omega)).mono ?_
   rintro eu wx ⟨x1, rfl, FM, bu⟩
   rw [htop] at FM
   replace FM := FM.le hbu.size
   go_wp2_with fail
   have hbu2 := hbu.trans (bu.mono hbu.size)
   exact hK.out _ _ ⟨(.slice ao m m), _, vu2, vu3, vu4, vu5, by simp only [Act.put, xL4, xL5, xL6], hbu2, fun _ => rfl, fun _ => FM, fun h => fu2 (mark_of (by decide) h), fun h => (fu3 (mark_of (by decide) h)).below bu, fun h => fu4 (mark_of (by decide) h), fun h => (fu5 (mark_of (by decide) h)).below bu⟩
  ·refine wpOp_shut (by rfl) (fun K hK => ?_)
   simp only [Act.put, xL4, xL5, xL6]
   go_simp
   exact hK.out _ _ ⟨vu0, vu1, (.slice ao m m), vu3, vu4, vu5, by simp only [Act.put, xL4, xL5, xL6], hbu, fun h => fu0 (mark_of (by decide) h), fun h => fu1 (mark_of (by decide) h), fun _ => rfl, fun h => fu3 (mark_of (by decide) h), fun h => fu4 (mark_of (by decide) h), fun h => fu5 (mark_of (by decide) h)⟩
  ·have eu2 := fu2 (dep_of 2 hru rfl (by kernel_rfl))
   replace eu2 := eu2.symm
   subst eu2
   have FM := fu1 (dep_of 1 hru rfl (by kernel_rfl))
   refine wpOp_shut (by rfl) (fun K hK => ?_)
   simp only [Act.put, xL4, xL5, xL6]
   have FP := FP.below hbu
   go_simp
   refine (ptop_at _ m q L _ FP (by omega) (by omega)).mono ?_
   rintro eu wx ⟨x3, rfl, h3, bu⟩
   go_wp2_with fail
   have hbu2 := hbu.trans (bu.mono hbu.size)
   exact hK.out _ _ ⟨vu0, vu1, (.slice ao m m), _, vu4, vu5, by simp only [Act.put, xL4, xL5, xL6], hbu2, fun h => fu0 (mark_of (by decide) h), fun h => (fu1 (mark_of (by decide) h)).below bu, fun _ => rfl, fun _ => h3, fun h => fu4 (mark_of (by decide) h), fun h => (fu5 (mark_of (by decide) h)).below bu⟩
  ·refine wpOp_shut (by rfl) (fun K hK => ?_)
   simp only [Act.put, xL4, xL5, xL6]
   obtain ⟨VX_0, VX_1, VX_2, VX_3, VX_4, VX_5⟩ := VX.below hbu
   go_simp
   exact hK.out _ _ ⟨vu0, vu1, vu2, vu3, (.agg #[.bool px, .slice ax nx cx, .slice bx mx dx]), vu5, by simp only [Act.put, xL4, xL5, xL6], hbu, fun h => fu0 (mark_of (by decide) h), fun h => fu1 (mark_of (by decide) h), fun h => fu2 (mark_of (by decide) h), fun h => fu3 (mark_of (by decide) h), fun _ => rfl, fun h => fu5 (mark_of (by decide) h)⟩
  ·have eu4 := fu4 (dep_of 4 hru rfl (by kernel_rfl))
   replace eu4 := eu4.symm
   subst eu4
   have h3 := fu3 (dep_of 3 hru rfl (by kernel_rfl))
   refine wpOp_shut (by rfl) (fun K hK => ?_)
   simp only [Act.put, xL4, xL5, xL6]
   have hx := hx.below hbu
   have ht := ht.below hbu
   go_simp
   refine (qmul_at _ _ (q (m - 1)) r (L + X) _ (h3.le (by omega)) (hx.at _ (by omega)) (by omega) (by omega) ht).mono ?_
   rintro eu wx ⟨x5, rfl, h5, bu⟩
   go_wp2_with fail
   have hbu2 := hbu.trans (bu.mono hbu.size)
   exact hK.out _ _ ⟨vu0, vu1, vu2, vu3, (.agg #[.bool px, .slice ax nx cx, .slice bx mx dx]), _, by simp only [Act.put, xL4, xL5, xL6], hbu2, fun h => fu0 (mark_of (by decide) h), fun h => (fu1 (mark_of (by decide) h)).below bu, fun h => fu2 (mark_of (by decide) h), fun h => (fu3 (mark_of (by decide) h)).below bu, fun _ => rfl, fun _ => h5⟩
 rintro au Wu1 ⟨vu0, vu1, vu2, vu3, vu4, vu5, rfl, hbu, fu0, fu1, fu2, fu3, fu4, fu5⟩
 have eu0 := (fu0 rfl).symm
 subst eu0
 have FM := fu1 rfl
 have eu2 := (fu2 rfl).symm
 subst eu2
 have h3 := fu3 rfl
 have eu4 := (fu4 rfl).symm
 subst eu4
 have h5 := fu5 rfl
 clear fu0 fu1 fu2 fu3 fu4 fu5
 have hlVX : w.heap.size < w1.heap.size := VX.lt
 have hlVL : w.heap.size + 1 < w1.heap.size := VL.lt
 replace hx := hx.below hbu
 replace ht := ht.below hbu
 replace FP := FP.below hbu
 replace VX := VX.below hbu
 replace VL := VL.below hbu
 replace BB := BB.trans (hbu.mono BB.size)
 clear hbu
 simp only [Act.put, xL4, xL5, xL6]
 refine wpAnyH_ready (rs := [6]) (by kernel_rfl) (by simp) ?_
 refine AllReadyH.cons (by rfl) (fun K hK => ?_) AllReadyH.nil
 obtain ⟨am, cm, rfl⟩ := FM.1.open
 obtain ⟨p3, a3, n3, c3, bo3, m3, d3, rfl⟩ := h5.open
 go_simp
 refine hK.out _ _ trivial (fun _ => ?_)
 clear hK K
 simp only [Act.put, xL4, xL5, xL6]
 refine wpAnyH_ready (rs := [7]) (by kernel_rfl) (by simp) ?_
 refine AllReadyH.cons (by rfl) (fun K hK => ?_) AllReadyH.nil
 have hKp := VL.keepJ (.slice am m cm) (.bool p3) (.slice a3 n3 c3) (.slice bo3 m3 d3)
 have hsz := VL.lt
 have FMn := (FM.other (grown_set4 Wu1 (w.heap.size + 1) (.slice am m cm) (.bool p3) (.slice a3 n3 c3) (.slice bo3 m3 d3)) hKp (fun g hg => by cases hg; omega)).le (by omega : w.heap.size ≤ _)
 have h5n := h5.keep hKp
 have BBn := below_store4 (R := w.heap.size + 1) BB (by omega) (.slice am m cm) (.bool p3) (.slice a3 n3 c3) (.slice bo3 m3 d3)
 obtain ⟨⟨y1, y2, y3, _, _, _⟩, y4, _⟩ := VL.same (.slice am m cm) (.bool p3) (.slice a3 n3 c3) (.slice bo3 m3 d3)
 obtain ⟨⟨x1, x2, x3, x4, x5, x6⟩, x7, x8⟩ := VL
 go_simp
 clear x1 x2 x3 x4 x5 x6 x7 x8
 refine hK.out _ _ trivial (fun _ => ?_)
 clear hK K
 simp only [Act.put, xL4, xL5, xL6]
 refine wpAnyH_done (by kernel_rfl) ?_ _
 go_wp2
 (try simp only [Exit.inBlock, Exit.then])
 refine bodyPost_ret (v := .agg #[.slice am m cm, .bool p3, .slice a3 n3 c3, .slice bo3 m3 d3]) (by simp [results, go_sem, y1, y2, y3, y4]) rfl ?_
 exact ⟨_, p3, a3, n3, c3, bo3, m3, d3, rfl, by rw [← HM.out]; exact FMn, by rw [← HM.out]; exact h5n, BBn⟩


set_option maxRecDepth 20000 in
set_option maxHeartbeats 4000000 in
theorem plinkq_none (v : Value) (n L : Nat) (q : Nat → Rat) (px : Bool) (ax : Option Addr) (nx cx : Nat) (bx : Option Addr) (mx dx : Nat) (w : World) (hv : QRow w v n q L) (hL : 1 ≤ L) (hS : L ≤ 40000) (h0 : trimN q n = 0) :
  Calls Tryz.prog 46 #[v, .agg #[.bool px, .slice ax nx cx, .slice bx mx dx]] w fun e w' => e = .returned (.agg #[.slice none 0 0, .bool false, .slice none 0 0, .slice none 0 0]) ∧ Below w.heap.size w w' := by
 have sq : ∀ i, i < n → qsz (q i) ≤ L := fun i hi => hv.sz hL i hi
 obtain ⟨ao, c, rfl, _, _, _⟩ := hv.open
 have BB : Below w.heap.size w w := Below.refl _ _
 obtain ⟨Wb0, hW0, hS0, hL0, VX⟩ := V3.lay w 39 (.bool px) (.slice ax nx cx) (.slice bx mx dx)
 replace hv := hv.below hL0
 replace BB := BB.trans (hL0.mono BB.size)
 clear hL0
 obtain ⟨Wb1, hW1, hS1, hL1, VL⟩ := V4.lay Wb0 54 (.slice none 0 0) (.bool false) (.slice none 0 0) (.slice none 0 0)
 rw [hS0] at VL hS1
 replace hv := hv.below hL1
 replace VX := VX.below hL1
 replace BB := BB.trans (hL1.mono BB.size)
 clear hL1
 go_enter Tryz.func46, Tryz.ntmps46
 go_wp2_with fail
 rw [← hW0]
 rw [← hW1]
 clear hW0 hW1 hS0 hS1
 refine (ptrim_at _ n q L _ hv hL (by omega)).mono ?_
 rintro e w1 ⟨ao2, c2, hvv, rfl, b1⟩
 replace hv := hv.below b1
 replace VX := VX.below b1
 replace VL := VL.below b1
 replace BB := BB.trans (b1.mono BB.size)
 clear b1
 cases hvv
 rw [h0]
 have BBn := below_store4 (R := w.heap.size + 1) BB (by omega) (.slice none 0 0) (.bool false) (.slice none 0 0) (.slice none 0 0)
 obtain ⟨⟨y1, y2, y3, _, _, _⟩, y4, _⟩ := VL.same (.slice none 0 0) (.bool false) (.slice none 0 0) (.slice none 0 0)
 obtain ⟨⟨x1, x2, x3, x4, x5, x6⟩, x7, x8⟩ := VL
 go_wp2
 (try simp only [Exit.inBlock, Exit.then])
 refine bodyPost_ret (v := .agg #[.slice none 0 0, .bool false, .slice none 0 0, .slice none 0 0]) (by simp [results, go_sem, y1, y2, y3, y4]) rfl ?_
 exact ⟨rfl, BBn⟩


theorem plinkq_val (v x : Value) (n L X : Nat) (q q' : Nat → Rat) (r r' : Rat) (w : World) (hv : QRow w v n q L) (hx : RepQ w x r) (sx : qsz r ≤ X) (ht : Tab w) (hL : 1 ≤ L) (hn1 : n ≤ 1000) (hS : L + X ≤ 40000) (N : Nat) (hN : trimN q n = N) (h0 : 0 < N) (hq : ∀ i, i < N → q i * (q (N - 1))⁻¹ = q' i) (hr : q (N - 1) * r = r') :
  Calls Tryz.prog 46 #[v, x] w fun e w' => ∃ y, e = .returned y ∧ LinkVal w.heap.size w' y N q' r' ∧ Below w.heap.size w w' := by
 subst hN
 refine (plinkq_some v x n L X q r w hv hx sx ht hL hn1 hS h0).mono ?_
 rintro e w' ⟨y, p, a, n3, c, b, m, d, rfl, f, g, hb⟩
 obtain ⟨am, cm, rfl⟩ := f.open
 rw [hr] at g
 exact ⟨_, rfl, ⟨am, cm, p, a, n3, c, b, m, d, rfl, f.congr hq, g⟩, hb⟩
theorem plinkq_zero (v x : Value) (n L : Nat) (q : Nat → Rat) (r : Rat) (w : World) (hv : QRow w v n q L) (hx : RepQ w x r) (hL : 1 ≤ L) (hS : L ≤ 40000) (h0 : trimN q n = 0) :
  Calls Tryz.prog 46 #[v, x] w fun e w' => e = .returned (.agg #[.slice none 0 0, .bool false, .slice none 0 0, .slice none 0 0]) ∧ Below w.heap.size w w' := by
 obtain ⟨px, ax, nx, cx, bx, mx, dx, rfl⟩ := hx.open
 exact plinkq_none v n L q px ax nx cx bx mx dx w hv hL hS h0

/-- T links, as IsChain says; no number that a division works out is longer than 40000 limbs. -/
structure IsChainS (T : Nat) (N : Nat → Nat) (Q : Nat → Nat → Rat) (R : Nat → Rat) (L : Nat) : Prop where
 pos : ∀ t, t < T → 0 < N t
 zero : N T = 0
 small : ∀ t, t < T → N t ≤ 1000
 sz : ∀ t i, t < T → i < N t → qsz (Q t i) ≤ L
 szR : ∀ t, t < T → qsz (R t) ≤ L
 top : ∀ t, t < T → Q t (N t - 1) ≠ 0
 len : ∀ t, t + 1 < T → trimN (restQ N Q t) (min (N t) (N (t + 1) - 1)) = N (t + 2)
 all : ∀ t, t + 1 < T → allS (N t) (Q (t + 1)) (N (t + 1) - 1) 40000 (N t - (N (t + 1) - 1)) (Q t)
 szr : ∀ t i, t + 1 < T → i < N (t + 2) → qsz (restQ N Q t i) ≤ L
 next : ∀ t, t + 2 < T → (∀ i, i < N (t + 2) → restQ N Q t i * (restQ N Q t (N (t + 2) - 1))⁻¹ = Q (t + 2) i) ∧ restQ N Q t (N (t + 2) - 1) * -(R t) = R (t + 2)
 most : L ≤ 20000
 least : 2 ≤ L


set_option maxRecDepth 100000 in
set_option maxHeartbeats 8000000 in
theorem plinksS_at (v : Value) (n : Nat) (q : Nat → Rat) (T : Nat) (N : Nat → Nat) (Q : Nat → Nat → Rat) (R : Nat → Rat) (L : Nat) (w : World) (hv : QRow w v n q L) (ht : Tab w) (hC : IsChainS T N Q R L) (hT : 2 ≤ T) (hTM : T ≤ 1000000) (hn : n ≤ 1000) (e0 : trimN q n = N 0) (e1 : ∀ i, i < N 0 → q i * (q (N 0 - 1))⁻¹ = Q 0 i) (e2 : q (N 0 - 1) * 1 = R 0) (d0 : trimN (fun i => q (i + 1) * (((i + 1 : Nat) : Int) : Rat)) (n - 1) = N 1) (d1 : ∀ i, i < N 1 → (fun i => q (i + 1) * (((i + 1 : Nat) : Int) : Rat)) i * ((fun i => q (i + 1) * (((i + 1 : Nat) : Int) : Rat)) (N 1 - 1))⁻¹ = Q 1 i) (d2 : (fun i => q (i + 1) * (((i + 1 : Nat) : Int) : Rat)) (N 1 - 1) * 1 = R 1) (sd : ∀ i, i < N 1 → qsz ((fun i => q (i + 1) * (((i + 1 : Nat) : Int) : Rat)) i) ≤ L) :
  Calls Tryz.prog 24 #[v] w fun e w' => ∃ u, e = .returned u ∧ CRow w' u T N Q R ∧ Below w.heap.size w w' := by
 have hL2 := hC.least
 have hLM := hC.most
 have HP0 := hC.pos 0 (by omega)
 have HP1 := hC.pos 1 (by omega)
 have HS1 := hC.small 1 (by omega)
 have HC : Hid (IsChainS T N Q R L) := hC
 clear hC
 have S1 : qsz (1 : Rat) ≤ L := Nat.le_trans (by decide +kernel) hL2
 obtain ⟨ao, c, rfl, _, _, _⟩ := hv.open
 have BB : Below w.heap.size w w := Below.refl _ _
 go_enter Tryz.func24, Tryz.ntmps24
 go_wp2_with fail
 refine (qone_at _).mono ?_
 rintro e w1 ⟨x1, rfl, h1, b1⟩
 replace hv := hv.below b1
 replace ht := ht.below b1
 replace BB := BB.trans (b1.mono BB.size)
 clear b1
 go_wp2_with fail
 refine (plinkq_val _ _ n L L q (Q 0) 1 (R 0) _ hv h1 S1 ht (by omega) hn (by omega) (N 0) e0 HP0 e1 e2).mono ?_
 rintro e w2 ⟨y0, rfl, K0, b2⟩
 replace hv := hv.below b2
 replace ht := ht.below b2
 replace h1 := h1.below b2
 replace BB := BB.trans (b2.mono BB.size)
 clear b2
 go_wp2_with fail
 clear h1
 refine (pderive_at _ n q L _ hv ht (by omega) hL2 (by omega)).mono ?_
 rintro e w3 ⟨x2, rfl, FD, b3⟩
 replace hv := hv.below b3
 replace ht := ht.below b3
 replace K0 := K0.below b3
 replace BB := BB.trans (b3.mono BB.size)
 clear b3
 rw [d0] at FD
 go_wp2_with fail
 refine (qone_at _).mono ?_
 rintro e w4 ⟨x3, rfl, h3, b4⟩
 replace hv := hv.below b4
 replace ht := ht.below b4
 replace K0 := K0.below b4
 replace FD := FD.below b4
 replace BB := BB.trans (b4.mono BB.size)
 clear b4
 go_wp2_with fail
 refine (plink_val _ _ (N 1) L L (fun i => q (i + 1) * (((i + 1 : Nat) : Int) : Rat)) (Q 1) 1 (R 1) _ FD.1 h3 sd S1 ht (by omega) HS1 (by omega) (N 1) (trimN_self d0) HP1 d1 d2).mono ?_
 rintro e w5 ⟨y1, rfl, K1, b5⟩
 replace hv := hv.below b5
 replace ht := ht.below b5
 replace K0 := K0.below b5
 replace FD := FD.below b5
 replace h3 := h3.below b5
 replace BB := BB.trans (b5.mono BB.size)
 clear b5
 clear h3 FD hv
 obtain ⟨am0, cm0, p0, a0, n0, c0, b0, m0, d0_, rfl, F0, r0⟩ := K0
 obtain ⟨am1, cm1, p1, a1, n1, c1, b1, m1, d1_, rfl, F1, r1⟩ := K1
 have FF0 := F0.1.ffar
 have FF1 := F1.1.ffar
 clear F0 F1
 have hZ1 : w.heap.size ≤ w5.heap.size := BB.size
 obtain ⟨W2, hW2, hS2, hL2, VA⟩ := V4.lay w5 54 (.slice am0 (N 0) cm0) (.bool p0) (.slice a0 n0 c0) (.slice b0 m0 d0_)
 replace ht := ht.below hL2
 replace FF0 := FF0.below hL2
 replace FF1 := FF1.below hL2
 replace r0 := r0.below hL2
 replace r1 := r1.below hL2
 replace BB := BB.trans (hL2.mono BB.size)
 clear hL2
 obtain ⟨W3, hW3, hS3, hL3, VB⟩ := V4.lay W2 54 (.slice am1 (N 1) cm1) (.bool p1) (.slice a1 n1 c1) (.slice b1 m1 d1_)
 replace ht := ht.below hL3
 replace FF0 := FF0.below hL3
 replace FF1 := FF1.below hL3
 replace r0 := r0.below hL3
 replace r1 := r1.below hL3
 replace VA := VA.below hL3
 replace BB := BB.trans (hL3.mono BB.size)
 clear hL3
 rw [hS2] at VB
 go_upto_if 18 with (fail)
 rw [← hW2]
 rw [← hW3]
 generalize w5.heap.size = R1 at *
 clear hW2 hS2 hW3 hS3
 have hVA := VA.lt
 have hVB := VB.lt
 have hZ0 : w.heap.size ≤ R1 := by omega
 have HN0 : (0 : Int) < (N 0 : Int) := by omega
 obtain ⟨⟨x1, x2, x3, x4, x5, x6⟩, x7, x8⟩ := id VA
 have A2 : Below W3.heap.size W3 (W3.alloc (.cells #[.slice am0 (N 0) cm0, .bool p0, .slice a0 n0 c0, .slice b0 m0 d0_] 54)) := (Below.refl _ _).alloc (Nat.le_refl _) _
 go_wp2_with (at_builtin; refine wpList_append_pure (Q' := IsNum) rfl _ _ _ rfl w.heap.size 54 (.agg #[.slice none 0 0, .bool false, .slice none 0 0, .slice none 0 0]) 4 80 Tryz.underlying51 info_link rfl (by omega) (.slice none 0 0) rfl (0) ([]) (World.ownsRow_nil _ _ _ _) (fun g hg => by cases hg) ⟨W3.heap.size, 0, none⟩ 1 rfl [.slice am0 (N 0) cm0, .bool p0, .slice a0 n0 c0, .slice b0 m0 d0_] rfl (news_block (heap_alloc_new _ _)) (by simp [Value.oneCell']) (by simp [num_slice, num_bool]) (by simp [Value.cells, num_slice, num_bool]) (by omega) (by omega) (by have := BB.size; simp; omega) ?_)
 intro g5 cap5 w5 ho5 hg5 hat5 hp5 hk5
 clear x1 x2 x3 x4 x5 x6 x7 x8
 replace hat5 : (Value.slice none 0 0).ownBlock = some g5 ∨ g5 = (W3.alloc (.cells #[.slice am0 (N 0) cm0, .bool p0, .slice a0 n0 c0, .slice b0 m0 d0_] 54)).heap.size := by rw [World.size_alloc]; exact hat5
 have hb5 := below_grown hg5
 have A5 : Below W3.heap.size W3 w5 := A2.trans (hb5.mono A2.size)
 have E5 : COwn R1 (R1 + 1) w.heap.size w5 (.slice (some ⟨g5, 0, none⟩) (0 + 1) cap5) (0 + 1) N Q R := COwn.more (World.ownsRow_nil _ _ _ _) (fun g hg => by cases hg) (fun i hi => by omega) ⟨FF0.fap.below A2, r0.below A2⟩ (by have := A2.size; omega) (by have := A2.size; omega) ho5 hg5 hat5 hp5 hk5
 have K0 : LinkAt R1 (R1 + 1) (some g5) w5 (.slice am0 (N 0) cm0) p0 a0 n0 c0 b0 m0 d0_ (N 0) (Q 0) (R 0) := LinkAt.grow (o := none) ⟨FF0.fap.below A2, r0.below A2⟩ hg5 hk5 (.inr (by rcases hat5 with h | h; cases h; rw [h]))
 have K1 : LinkAt R1 (R1 + 1) (some g5) w5 (.slice am1 (N 1) cm1) p1 a1 n1 c1 b1 m1 d1_ (N 1) (Q 1) (R 1) := LinkAt.grow (o := none) ⟨FF1.fap.below A2, r1.below A2⟩ hg5 hk5 (.inr (by rcases hat5 with h | h; cases h; rw [h]))
 replace VA := VA.below A5
 replace VB := VB.below A5
 replace ht := ht.below A5
 have B5 : Below w.heap.size w w5 := BB.trans (A5.mono BB.size)
 clear A2 A5 hb5 ho5 hg5 hat5 hp5 hk5 BB FF0 FF1 r0 r1
 go_wp2
 go_loopw [3] (fun vo wr => ∃ (t g cap : Nat) (y : Value) (p : Bool) (a : Option Addr) (n c : Nat) (b : Option Addr) (m d : Nat), t < T ∧ vo = .slice (some ⟨g, 0, none⟩) (t + 1) cap ∧ V4 wr R1 y (.bool p) (.slice a n c) (.slice b m d) ∧ LinkAt R1 (R1 + 1) (some g) wr y p a n c b m d (N t) (Q t) (R t) ∧ NextVar R1 (R1 + 1) (some g) wr T N Q R (t + 1) ∧ COwn R1 (R1 + 1) w.heap.size wr (.slice (some ⟨g, 0, none⟩) (t + 1) cap) (t + 1) N Q R ∧ Tab wr ∧ Below w.heap.size w wr) (fun vo _ => T - lenC vo)
 case atStart => exact ⟨0, g5, cap5, _, _, _, _, _, _, _, _, by omega, rfl, VA, K0, .inl ⟨by omega, _, _, _, _, _, _, _, _, VB, K1⟩, E5, ht, B5⟩
 case round =>
  obtain ⟨t, g, cap, y, p, a, n_, c_, b, m, d_, ht1, rfl, VA, KA, NV, CO, ht, BB⟩ := hrel
  rcases NV with ⟨hlt, y2, p2, a2, n2, c2, b2, m2, d2_, VB, KB⟩ | ⟨hEnd, VB⟩
  ·obtain ⟨ay, cy, rfl⟩ := KA.1.1.open
   obtain ⟨ay2, cy2, rfl⟩ := KB.1.1.open
   have hp2 := HC.out.pos (t + 1) hlt
   have hpi : (0 : Int) < (N (t + 1) : Int) := by omega
   obtain ⟨us, uo, u1, u2⟩ := CO
   have hVA := VA.lt
   have hVB := VB.lt
   obtain ⟨⟨x1, x2, x3, x4, x5, x6⟩, x7, x8⟩ := id VB
   have A2 : Below wr.heap.size wr (wr.alloc (.cells #[.slice ay2 (N (t + 1)) cy2, .bool p2, .slice a2 n2 c2, .slice b2 m2 d2_] 54)) := (Below.refl _ _).alloc (Nat.le_refl _) _
   have HU1 : Hid (∀ g0, (Value.slice (some ⟨g, 0, none⟩) (t + 1) cap).ownBlock = some g0 → PureB IsNum wr g0 ∧ g0 ≠ R1 ∧ g0 ≠ R1 + 1) := u1
   have HU2 := u2
   have HU2h : Hid (∀ i, i < t + 1 → ∃ y p a n c b m d, us[i * 4]? = some y ∧ us[i * 4 + 1]? = some (.bool p) ∧ us[i * 4 + 2]? = some (.slice a n c) ∧ us[i * 4 + 3]? = some (.slice b m d) ∧ LinkAt R1 (R1 + 1) (some g) wr y p a n c b m d (N i) (Q i) (R i)) := u2
   clear u1 u2 HU2
   have htb : t ≤ 1000000 := Nat.le_trans (Nat.le_of_lt ht1) hTM
   go_wp2_with (at_builtin; refine wpList_append_pure (Q' := IsNum) rfl _ _ _ rfl w.heap.size 54 (.agg #[.slice none 0 0, .bool false, .slice none 0 0, .slice none 0 0]) 4 80 Tryz.underlying51 info_link rfl (by omega) (.slice (some ⟨g, 0, none⟩) (t + 1) cap) rfl (t + 1) (us) (uo.alloc _) (fun g0 hg0 => (HU1.out g0 hg0).1.below A2 (uo.lt g0 hg0).2) ⟨wr.heap.size, 0, none⟩ 1 rfl [.slice ay2 (N (t + 1)) cy2, .bool p2, .slice a2 n2 c2, .slice b2 m2 d2_] rfl (news_block (heap_alloc_new _ _)) (by simp [Value.oneCell']) (by simp [num_slice, num_bool]) (by simp [Value.cells, num_slice, num_bool]) (by omega) (by omega) (by have := BB.size; simp; omega) ?_)
   intro g5 cap5 w5 ho5 hg5 hat5 hp5 hk5
   clear x1 x2 x3 x4 x5 x6 x7 x8
   replace hat5 : (Value.slice (some ⟨g, 0, none⟩) (t + 1) cap).ownBlock = some g5 ∨ g5 = (wr.alloc (.cells #[.slice ay2 (N (t + 1)) cy2, .bool p2, .slice a2 n2 c2, .slice b2 m2 d2_] 54)).heap.size := by rw [World.size_alloc]; exact hat5
   have ho' : some g5 = some g ∨ some g5 = some (wr.alloc (.cells #[.slice ay2 (N (t + 1)) cy2, .bool p2, .slice a2 n2 c2, .slice b2 m2 d2_] 54)).heap.size := by rcases hat5 with h | h; exact .inl h.symm; exact .inr (by rw [h])
   have E5 : COwn R1 (R1 + 1) w.heap.size w5 (.slice (some ⟨g5, 0, none⟩) (t + 1 + 1) cap5) (t + 1 + 1) N Q R := COwn.more (owns_later uo A2) (fun g0 hg0 => ⟨(HU1.out g0 hg0).1.below A2 (uo.lt g0 hg0).2, (HU1.out g0 hg0).2⟩) (fun i hi => let ⟨y, p, a, n, c, b, m, d, e1, e2, e3, e4, k⟩ := HU2h.out i hi; ⟨y, p, a, n, c, b, m, d, e1, e2, e3, e4, k.below A2⟩) (KB.below A2) (by have := A2.size; omega) (by have := A2.size; omega) ho5 hg5 hat5 hp5 hk5
   obtain ⟨hgA, hgB⟩ := (HU1.out g rfl).2
   have KA5 := (KA.below A2).grow hg5 hk5 ho'
   have KB5 := (KB.below A2).grow hg5 hk5 ho'
   have VA5 := (VA.below A2).grown hg5 (fun e => by injection e with e; exact hgA e.symm)
   have VB5 := (VB.below A2).grown hg5 (fun e => by injection e with e; exact hgB e.symm)
   have ht5 := (ht.below A2).keep hk5
   have B5 : Below w.heap.size w w5 := below_grownB (BB.trans (A2.mono BB.size)) hg5 (by have := BB.size; have := A2.size; omega) (fun g0 hg0 => (uo.lt g0 hg0).1)
   clear A2 ho5 hg5 hat5 hp5 hk5 ho' HU1 HU2h uo KA KB VA VB ht BB
   have KA := KA5
   have KB := KB5
   have VA := VA5
   have VB := VB5
   have ht := ht5
   have BB := B5
   have CO := E5
   clear KA5 KB5 VA5 VB5 ht5 B5 E5
   obtain ⟨⟨x1, x2, x3, x4, x5, x6⟩, x7, x8⟩ := id VA
   obtain ⟨⟨z1, z2, z3, z4, z5, z6⟩, z7, z8⟩ := id VB
   go_wp2_with fail
   clear x1 x2 x3 x4 x5 x6 x7 x8 z1 z2 z3 z4 z5 z6 z7 z8
   refine (pdivide_S _ _ (N t) (N (t + 1)) (Q t) (Q (t + 1)) L 40000 _ KA.1.1 KB.1.1 (fun i hi => HC.out.sz (t + 1) i hlt hi) ht (HC.out.small t ht1) (HC.out.small (t + 1) hlt) hp2 (HC.out.top (t + 1) hlt) (by omega) (by omega) (by omega) (HC.out.all t hlt)).mono ?_
   rintro e w6 ⟨xq, yr, rfl, FQ, FR_, b6⟩
   replace KA := KA.below b6
   replace KB := KB.below b6
   replace CO := CO.below b6
   replace ht := ht.below b6
   replace VA := VA.below b6
   replace VB := VB.below b6
   replace BB := BB.trans (b6.mono BB.size)
   clear b6
   have hlen := HC.out.len t hlt
   unfold restQ at hlen
   rw [hlen] at FR_
   have FR : FNew w5.heap.size w6 yr (N (t + 2)) (restQ N Q t) := FR_
   clear FR_ FQ hlen
   obtain ⟨ar, cr, rfl⟩ := FR.1.open
   go_wp2_with fail
   have hgl : g5 < w6.heap.size := CO.lt rfl
   by_cases hl2 : t + 2 < T
   ·refine wp_region_until 6 #[true, true, true, true, true, true, false, false] (fun aF lsd a' w' => ∃ vu0 vu1 vu2 vu3 vu4 vu5 : Value, a' = (((((aF.put (some 39) vu0).put (some 40) vu1).put (some 41) vu2).put (some 42) vu3).put (some 43) vu4).put (some 44) vu5 ∧ Below w6.heap.size w6 w' ∧ (lsd.getD 0 false = true → vu0 = .agg #[.slice ay2 (N (t + 1)) cy2, .bool p2, .slice a2 n2 c2, .slice b2 m2 d2_]) ∧ (lsd.getD 1 false = true → vu1 = .slice ar (N (t + 2)) cr) ∧ (lsd.getD 2 false = true → vu2 = .pointer (some ⟨R1, 1, none⟩)) ∧ (lsd.getD 3 false = true → vu3 = .agg #[.bool p, .slice a n_ c_, .slice b m d_]) ∧ (lsd.getD 4 false = true → RepQ w' vu4 (-(R t))) ∧ (lsd.getD 5 false = true → LinkVal w6.heap.size w' vu5 (N (t + 2)) (Q (t + 2)) (R (t + 2)))) (by kernel_rfl) (by decide) (by kernel_rfl) (by rfl) (by kernel_rfl) ?_ ?_ ?_
    ·exact ⟨_, _, _, _, _, _, by simp only [Act.put, xL4, xL5, xL6]; rfl, (Below.refl _ _).drew, fun h => absurd h (fun h => mark_none h), fun h => absurd h (fun h => mark_none h), fun h => absurd h (fun h => mark_none h), fun h => absurd h (fun h => mark_none h), fun h => absurd h (fun h => mark_none h), fun h => absurd h (fun h => mark_none h)⟩
    ·rintro lsd au wn iu hszu ⟨vu0, vu1, vu2, vu3, vu4, vu5, rfl, hbu, fu0, fu1, fu2, fu3, fu4, fu5⟩ himu hru
     rcases (show iu = 0 ∨ iu = 1 ∨ iu = 2 ∨ iu = 3 ∨ iu = 4 ∨ iu = 5 by omega) with rfl | rfl | rfl | rfl | rfl | rfl
     ·refine wpOp_shut (by rfl) (fun K hK => ?_)
      simp only [Act.put, xL4, xL5, xL6]
      obtain ⟨⟨x1, x2, x3, x4, x5, x6⟩, x7, x8⟩ := VB.below hbu
      go_simp
      exact hK.out _ _ ⟨(.agg #[.slice ay2 (N (t + 1)) cy2, .bool p2, .slice a2 n2 c2, .slice b2 m2 d2_]), vu1, vu2, vu3, vu4, vu5, by simp only [Act.put, xL4, xL5, xL6], hbu, fun _ => rfl, fun h => fu1 (mark_of (by decide) h), fun h => fu2 (mark_of (by decide) h), fun h => fu3 (mark_of (by decide) h), fun h => fu4 (mark_of (by decide) h), fun h => fu5 (mark_of (by decide) h)⟩
     ·refine wpOp_shut (by rfl) (fun K hK => ?_)
      simp only [Act.put, xL4, xL5, xL6]
      go_simp
      exact hK.out _ _ ⟨vu0, (.slice ar (N (t + 2)) cr), vu2, vu3, vu4, vu5, by simp only [Act.put, xL4, xL5, xL6], hbu, fun h => fu0 (mark_of (by decide) h), fun _ => rfl, fun h => fu2 (mark_of (by decide) h), fun h => fu3 (mark_of (by decide) h), fun h => fu4 (mark_of (by decide) h), fun h => fu5 (mark_of (by decide) h)⟩
     ·refine wpOp_shut (by rfl) (fun K hK => ?_)
      simp only [Act.put, xL4, xL5, xL6]
      go_simp
      exact hK.out _ _ ⟨vu0, vu1, (.pointer (some ⟨R1, 1, none⟩)), vu3, vu4, vu5, by simp only [Act.put, xL4, xL5, xL6], hbu, fun h => fu0 (mark_of (by decide) h), fun h => fu1 (mark_of (by decide) h), fun _ => rfl, fun h => fu3 (mark_of (by decide) h), fun h => fu4 (mark_of (by decide) h), fun h => fu5 (mark_of (by decide) h)⟩
     ·have eu2 := fu2 (dep_of 2 hru rfl (by kernel_rfl))
      replace eu2 := eu2.symm
      subst eu2
      refine wpOp_shut (by rfl) (fun K hK => ?_)
      simp only [Act.put, xL4, xL5, xL6]
      obtain ⟨⟨x1, x2, x3, x4, x5, x6⟩, x7, x8⟩ := VA.below hbu
      go_simp
      exact hK.out _ _ ⟨vu0, vu1, (.pointer (some ⟨R1, 1, none⟩)), (.agg #[.bool p, .slice a n_ c_, .slice b m d_]), vu4, vu5, by simp only [Act.put, xL4, xL5, xL6], hbu, fun h => fu0 (mark_of (by decide) h), fun h => fu1 (mark_of (by decide) h), fun _ => rfl, fun _ => rfl, fun h => fu4 (mark_of (by decide) h), fun h => fu5 (mark_of (by decide) h)⟩
     ·have eu3 := fu3 (dep_of 3 hru rfl (by kernel_rfl))
      replace eu3 := eu3.symm
      subst eu3
      refine wpOp_shut (by rfl) (fun K hK => ?_)
      simp only [Act.put, xL4, xL5, xL6]
      have KA := KA.below hbu
      have ht := ht.below hbu
      go_simp
      refine (qneg_at _ (R t) L _ (KA.2.at L (HC.out.szR t ht1)) (by omega) (by omega) ht).mono ?_
      rintro eu wx ⟨x4, rfl, h4, bu⟩
      go_wp2_with fail
      have hbu2 := hbu.trans (bu.mono hbu.size)
      exact hK.out _ _ ⟨vu0, vu1, vu2, (.agg #[.bool p, .slice a n_ c_, .slice b m d_]), _, vu5, by simp only [Act.put, xL4, xL5, xL6], hbu2, fun h => fu0 (mark_of (by decide) h), fun h => fu1 (mark_of (by decide) h), fun h => fu2 (mark_of (by decide) h), fun _ => rfl, fun _ => h4, fun h => (fu5 (mark_of (by decide) h)).below bu⟩
     ·have eu1 := fu1 (dep_of 1 hru rfl (by kernel_rfl))
      replace eu1 := eu1.symm
      subst eu1
      have h4 := fu4 (dep_of 4 hru rfl (by kernel_rfl))
      refine wpOp_shut (by rfl) (fun K hK => ?_)
      simp only [Act.put, xL4, xL5, xL6]
      have ht := ht.below hbu
      have FR := FR.below hbu
      go_simp
      refine (plink_val _ _ (N (t + 2)) L L (restQ N Q t) (Q (t + 2)) (-(R t)) (R (t + 2)) _ FR.1 h4 (fun i hi => HC.out.szr t i hlt hi) (qsz_neg_le (HC.out.szR t ht1)) ht (by omega) (HC.out.small _ hl2) (by omega) (N (t + 2)) (trimN_self (HC.out.len t hlt)) (HC.out.pos _ hl2) (HC.out.next t hl2).1 (HC.out.next t hl2).2).mono ?_
      rintro eu wx ⟨x5, rfl, h5, bu⟩
      replace h5 := LinkVal.le h5 hbu.size
      go_wp2_with fail
      have hbu2 := hbu.trans (bu.mono hbu.size)
      exact hK.out _ _ ⟨vu0, (.slice ar (N (t + 2)) cr), vu2, vu3, vu4, _, by simp only [Act.put, xL4, xL5, xL6], hbu2, fun h => fu0 (mark_of (by decide) h), fun _ => rfl, fun h => fu2 (mark_of (by decide) h), fun h => fu3 (mark_of (by decide) h), fun h => (fu4 (mark_of (by decide) h)).below bu, fun _ => h5⟩
    rintro au Wu4 ⟨vu0, vu1, vu2, vu3, vu4, vu5, rfl, hbu, fu0, fu1, fu2, fu3, fu4, fu5⟩
    have eu0 := (fu0 rfl).symm
    subst eu0
    have eu1 := (fu1 rfl).symm
    subst eu1
    have eu2 := (fu2 rfl).symm
    subst eu2
    have eu3 := (fu3 rfl).symm
    subst eu3
    have h4 := fu4 rfl
    have h5 := fu5 rfl
    clear fu0 fu1 fu2 fu3 fu4 fu5
    have hlVA : R1 < w6.heap.size := VA.lt
    have hlVB : R1 + 1 < w6.heap.size := VB.lt
    replace KA := KA.below hbu
    replace KB := KB.below hbu
    replace CO := CO.below hbu
    replace ht := ht.below hbu
    replace FR := FR.below hbu
    replace VA := VA.below hbu
    replace VB := VB.below hbu
    replace BB := BB.trans (hbu.mono BB.size)
    clear hbu
    simp only [Act.put, xL4, xL5, xL6]
    refine wpAnyH_ready (rs := [6]) (by kernel_rfl) (by simp) ?_
    refine AllReadyH.cons (by rfl) (fun K hK => ?_) AllReadyH.nil
    obtain ⟨am5, cm5, p5, a5, n5, c5, b5, m5, d5, rfl, F5, r5⟩ := h5
    clear FR h4
    have hKp := VA.keepJ (.slice ay2 (N (t + 1)) cy2) (.bool p2) (.slice a2 n2 c2) (.slice b2 m2 d2_)
    have hGr := grown_set4 Wu4 (R1) (.slice ay2 (N (t + 1)) cy2) (.bool p2) (.slice a2 n2 c2) (.slice b2 m2 d2_)
    have VA_n := VA.same (.slice ay2 (N (t + 1)) cy2) (.bool p2) (.slice a2 n2 c2) (.slice b2 m2 d2_)
    have VB_n := VB.other4 (R := R1) (by omega) (.slice ay2 (N (t + 1)) cy2) (.bool p2) (.slice a2 n2 c2) (.slice b2 m2 d2_)
    have KA_n := KA.store (.inl rfl) hGr hKp
    have KB_n := KB.store (.inl rfl) hGr hKp
    have CO_n := CO.store (.inl rfl) hGr hKp
    have ht_n := ht.keep hKp
    have BB_n := below_store4 (R := R1) BB (by omega) (.slice ay2 (N (t + 1)) cy2) (.bool p2) (.slice a2 n2 c2) (.slice b2 m2 d2_)
    have F5_n := F5.other hGr hKp (fun g hg => by cases hg; omega)
    have r5_n := r5.keep hKp
    obtain ⟨⟨x1, x2, x3, x4, x5, x6⟩, x7, x8⟩ := id VA
    go_simp
    clear x1 x2 x3 x4 x5 x6 x7 x8
    clear hKp hGr VA VB KA KB CO ht BB F5 r5
    generalize (((Wu4.setCell ⟨R1, 0, none⟩ (.slice ay2 (N (t + 1)) cy2)).setCell ⟨R1, 1, none⟩ (.bool p2)).setCell ⟨R1, 2, none⟩ (.slice a2 n2 c2)).setCell ⟨R1, 3, none⟩ (.slice b2 m2 d2_) = W5 at *
    have VA := VA_n
    have VB := VB_n
    have KA := KA_n
    have KB := KB_n
    have CO := CO_n
    have ht := ht_n
    have BB := BB_n
    have F5 := F5_n
    have r5 := r5_n
    clear VA_n VB_n KA_n KB_n CO_n ht_n BB_n F5_n r5_n
    refine hK.out _ _ trivial (fun _ => ?_)
    clear hK K
    simp only [Act.put, xL4, xL5, xL6]
    refine wpAnyH_ready (rs := [7]) (by kernel_rfl) (by simp) ?_
    refine AllReadyH.cons (by rfl) (fun K hK => ?_) AllReadyH.nil
    have hKp := VB.keepJ (.slice am5 (N (t + 2)) cm5) (.bool p5) (.slice a5 n5 c5) (.slice b5 m5 d5)
    have hGr := grown_set4 W5 (R1 + 1) (.slice am5 (N (t + 2)) cm5) (.bool p5) (.slice a5 n5 c5) (.slice b5 m5 d5)
    have VB_n := VB.same (.slice am5 (N (t + 2)) cm5) (.bool p5) (.slice a5 n5 c5) (.slice b5 m5 d5)
    have VA_n := VA.other4 (R := R1 + 1) (by omega) (.slice am5 (N (t + 2)) cm5) (.bool p5) (.slice a5 n5 c5) (.slice b5 m5 d5)
    have KA_n := KA.store (.inr rfl) hGr hKp
    have KB_n := KB.store (.inr rfl) hGr hKp
    have CO_n := CO.store (.inr rfl) hGr hKp
    have ht_n := ht.keep hKp
    have BB_n := below_store4 (R := R1 + 1) BB (by omega) (.slice am5 (N (t + 2)) cm5) (.bool p5) (.slice a5 n5 c5) (.slice b5 m5 d5)
    have F5_n := F5.other hGr hKp (fun g hg => by cases hg; omega)
    have r5_n := r5.keep hKp
    obtain ⟨⟨x1, x2, x3, x4, x5, x6⟩, x7, x8⟩ := id VB
    go_simp
    clear x1 x2 x3 x4 x5 x6 x7 x8
    clear hKp hGr VA VB KA KB CO ht BB F5 r5
    generalize (((W5.setCell ⟨R1 + 1, 0, none⟩ (.slice am5 (N (t + 2)) cm5)).setCell ⟨R1 + 1, 1, none⟩ (.bool p5)).setCell ⟨R1 + 1, 2, none⟩ (.slice a5 n5 c5)).setCell ⟨R1 + 1, 3, none⟩ (.slice b5 m5 d5) = W6 at *
    have VA := VA_n
    have VB := VB_n
    have KA := KA_n
    have KB := KB_n
    have CO := CO_n
    have ht := ht_n
    have BB := BB_n
    have F5 := F5_n
    have r5 := r5_n
    clear VA_n VB_n KA_n KB_n CO_n ht_n BB_n F5_n r5_n
    refine hK.out _ _ trivial (fun _ => ?_)
    clear hK K
    simp only [Act.put, xL4, xL5, xL6]
    refine wpAnyH_done (by kernel_rfl) ?_ _
    go_wp2
    go_roundw
    case rel => exact ⟨t + 1, g5, cap5, _, _, _, _, _, _, _, _, hlt, rfl, VA, KB, .inl ⟨hl2, _, _, _, _, _, _, _, _, VB, F5.fap (by omega) (by omega) (fun g0 hg0 => by injection hg0 with hg0; omega), r5⟩, CO, ht, BB⟩
    case measure => simp only [lenC]; omega
   ·have hz0 : trimN (restQ N Q t) (N (t + 2)) = 0 := by have h1 := HC.out.zero; rw [show t + 2 = T by omega]; rw [h1]; rfl
    refine wp_region_until 6 #[true, true, true, true, true, true, false, false] (fun aF lsd a' w' => ∃ vu0 vu1 vu2 vu3 vu4 vu5 : Value, a' = (((((aF.put (some 39) vu0).put (some 40) vu1).put (some 41) vu2).put (some 42) vu3).put (some 43) vu4).put (some 44) vu5 ∧ Below w6.heap.size w6 w' ∧ (lsd.getD 0 false = true → vu0 = .agg #[.slice ay2 (N (t + 1)) cy2, .bool p2, .slice a2 n2 c2, .slice b2 m2 d2_]) ∧ (lsd.getD 1 false = true → vu1 = .slice ar (N (t + 2)) cr) ∧ (lsd.getD 2 false = true → vu2 = .pointer (some ⟨R1, 1, none⟩)) ∧ (lsd.getD 3 false = true → vu3 = .agg #[.bool p, .slice a n_ c_, .slice b m d_]) ∧ (lsd.getD 4 false = true → RepQ w' vu4 (-(R t))) ∧ (lsd.getD 5 false = true → vu5 = .agg #[.slice none 0 0, .bool false, .slice none 0 0, .slice none 0 0])) (by kernel_rfl) (by decide) (by kernel_rfl) (by rfl) (by kernel_rfl) ?_ ?_ ?_
    ·exact ⟨_, _, _, _, _, _, by simp only [Act.put, xL4, xL5, xL6]; rfl, (Below.refl _ _).drew, fun h => absurd h (fun h => mark_none h), fun h => absurd h (fun h => mark_none h), fun h => absurd h (fun h => mark_none h), fun h => absurd h (fun h => mark_none h), fun h => absurd h (fun h => mark_none h), fun h => absurd h (fun h => mark_none h)⟩
    ·rintro lsd au wn iu hszu ⟨vu0, vu1, vu2, vu3, vu4, vu5, rfl, hbu, fu0, fu1, fu2, fu3, fu4, fu5⟩ himu hru
     rcases (show iu = 0 ∨ iu = 1 ∨ iu = 2 ∨ iu = 3 ∨ iu = 4 ∨ iu = 5 by omega) with rfl | rfl | rfl | rfl | rfl | rfl
     ·refine wpOp_shut (by rfl) (fun K hK => ?_)
      simp only [Act.put, xL4, xL5, xL6]
      obtain ⟨⟨x1, x2, x3, x4, x5, x6⟩, x7, x8⟩ := VB.below hbu
      go_simp
      exact hK.out _ _ ⟨(.agg #[.slice ay2 (N (t + 1)) cy2, .bool p2, .slice a2 n2 c2, .slice b2 m2 d2_]), vu1, vu2, vu3, vu4, vu5, by simp only [Act.put, xL4, xL5, xL6], hbu, fun _ => rfl, fun h => fu1 (mark_of (by decide) h), fun h => fu2 (mark_of (by decide) h), fun h => fu3 (mark_of (by decide) h), fun h => fu4 (mark_of (by decide) h), fun h => fu5 (mark_of (by decide) h)⟩
     ·refine wpOp_shut (by rfl) (fun K hK => ?_)
      simp only [Act.put, xL4, xL5, xL6]
      go_simp
      exact hK.out _ _ ⟨vu0, (.slice ar (N (t + 2)) cr), vu2, vu3, vu4, vu5, by simp only [Act.put, xL4, xL5, xL6], hbu, fun h => fu0 (mark_of (by decide) h), fun _ => rfl, fun h => fu2 (mark_of (by decide) h), fun h => fu3 (mark_of (by decide) h), fun h => fu4 (mark_of (by decide) h), fun h => fu5 (mark_of (by decide) h)⟩
     ·refine wpOp_shut (by rfl) (fun K hK => ?_)
      simp only [Act.put, xL4, xL5, xL6]
      go_simp
      exact hK.out _ _ ⟨vu0, vu1, (.pointer (some ⟨R1, 1, none⟩)), vu3, vu4, vu5, by simp only [Act.put, xL4, xL5, xL6], hbu, fun h => fu0 (mark_of (by decide) h), fun h => fu1 (mark_of (by decide) h), fun _ => rfl, fun h => fu3 (mark_of (by decide) h), fun h => fu4 (mark_of (by decide) h), fun h => fu5 (mark_of (by decide) h)⟩
     ·have eu2 := fu2 (dep_of 2 hru rfl (by kernel_rfl))
      replace eu2 := eu2.symm
      subst eu2
      refine wpOp_shut (by rfl) (fun K hK => ?_)
      simp only [Act.put, xL4, xL5, xL6]
      obtain ⟨⟨x1, x2, x3, x4, x5, x6⟩, x7, x8⟩ := VA.below hbu
      go_simp
      exact hK.out _ _ ⟨vu0, vu1, (.pointer (some ⟨R1, 1, none⟩)), (.agg #[.bool p, .slice a n_ c_, .slice b m d_]), vu4, vu5, by simp only [Act.put, xL4, xL5, xL6], hbu, fun h => fu0 (mark_of (by decide) h), fun h => fu1 (mark_of (by decide) h), fun _ => rfl, fun _ => rfl, fun h => fu4 (mark_of (by decide) h), fun h => fu5 (mark_of (by decide) h)⟩
     ·have eu3 := fu3 (dep_of 3 hru rfl (by kernel_rfl))
      replace eu3 := eu3.symm
      subst eu3
      refine wpOp_shut (by rfl) (fun K hK => ?_)
      simp only [Act.put, xL4, xL5, xL6]
      have KA := KA.below hbu
      have ht := ht.below hbu
      go_simp
      refine (qneg_at _ (R t) L _ (KA.2.at L (HC.out.szR t ht1)) (by omega) (by omega) ht).mono ?_
      rintro eu wx ⟨x4, rfl, h4, bu⟩
      go_wp2_with fail
      have hbu2 := hbu.trans (bu.mono hbu.size)
      exact hK.out _ _ ⟨vu0, vu1, vu2, (.agg #[.bool p, .slice a n_ c_, .slice b m d_]), _, vu5, by simp only [Act.put, xL4, xL5, xL6], hbu2, fun h => fu0 (mark_of (by decide) h), fun h => fu1 (mark_of (by decide) h), fun h => fu2 (mark_of (by decide) h), fun _ => rfl, fun _ => h4, fun h => fu5 (mark_of (by decide) h)⟩
     ·have eu1 := fu1 (dep_of 1 hru rfl (by kernel_rfl))
      replace eu1 := eu1.symm
      subst eu1
      have h4 := fu4 (dep_of 4 hru rfl (by kernel_rfl))
      refine wpOp_shut (by rfl) (fun K hK => ?_)
      simp only [Act.put, xL4, xL5, xL6]
      have FR := FR.below hbu
      go_simp
      refine (plink_zero _ _ (N (t + 2)) L (restQ N Q t) (-(R t)) _ FR.1 h4 (fun i hi => HC.out.szr t i hlt hi) (by omega) (by omega) hz0).mono ?_
      rintro eu wx ⟨rfl, bu⟩
      go_wp2_with fail
      have hbu2 := hbu.trans (bu.mono hbu.size)
      exact hK.out _ _ ⟨vu0, (.slice ar (N (t + 2)) cr), vu2, vu3, vu4, (.agg #[.slice none 0 0, .bool false, .slice none 0 0, .slice none 0 0]), by simp only [Act.put, xL4, xL5, xL6], hbu2, fun h => fu0 (mark_of (by decide) h), fun _ => rfl, fun h => fu2 (mark_of (by decide) h), fun h => fu3 (mark_of (by decide) h), fun h => (fu4 (mark_of (by decide) h)).below bu, fun _ => rfl⟩
    rintro au Wu4 ⟨vu0, vu1, vu2, vu3, vu4, vu5, rfl, hbu, fu0, fu1, fu2, fu3, fu4, fu5⟩
    have eu0 := (fu0 rfl).symm
    subst eu0
    have eu1 := (fu1 rfl).symm
    subst eu1
    have eu2 := (fu2 rfl).symm
    subst eu2
    have eu3 := (fu3 rfl).symm
    subst eu3
    have h4 := fu4 rfl
    have eu5 := (fu5 rfl).symm
    subst eu5
    clear fu0 fu1 fu2 fu3 fu4 fu5
    have hlVA : R1 < w6.heap.size := VA.lt
    have hlVB : R1 + 1 < w6.heap.size := VB.lt
    replace KA := KA.below hbu
    replace KB := KB.below hbu
    replace CO := CO.below hbu
    replace ht := ht.below hbu
    replace FR := FR.below hbu
    replace VA := VA.below hbu
    replace VB := VB.below hbu
    replace BB := BB.trans (hbu.mono BB.size)
    clear hbu
    simp only [Act.put, xL4, xL5, xL6]
    refine wpAnyH_ready (rs := [6]) (by kernel_rfl) (by simp) ?_
    refine AllReadyH.cons (by rfl) (fun K hK => ?_) AllReadyH.nil
    clear FR h4
    have hKp := VA.keepJ (.slice ay2 (N (t + 1)) cy2) (.bool p2) (.slice a2 n2 c2) (.slice b2 m2 d2_)
    have hGr := grown_set4 Wu4 (R1) (.slice ay2 (N (t + 1)) cy2) (.bool p2) (.slice a2 n2 c2) (.slice b2 m2 d2_)
    have VA_n := VA.same (.slice ay2 (N (t + 1)) cy2) (.bool p2) (.slice a2 n2 c2) (.slice b2 m2 d2_)
    have VB_n := VB.other4 (R := R1) (by omega) (.slice ay2 (N (t + 1)) cy2) (.bool p2) (.slice a2 n2 c2) (.slice b2 m2 d2_)
    have KA_n := KA.store (.inl rfl) hGr hKp
    have KB_n := KB.store (.inl rfl) hGr hKp
    have CO_n := CO.store (.inl rfl) hGr hKp
    have ht_n := ht.keep hKp
    have BB_n := below_store4 (R := R1) BB (by omega) (.slice ay2 (N (t + 1)) cy2) (.bool p2) (.slice a2 n2 c2) (.slice b2 m2 d2_)
    obtain ⟨⟨x1, x2, x3, x4, x5, x6⟩, x7, x8⟩ := id VA
    go_simp
    clear x1 x2 x3 x4 x5 x6 x7 x8
    clear hKp hGr VA VB KA KB CO ht BB
    generalize (((Wu4.setCell ⟨R1, 0, none⟩ (.slice ay2 (N (t + 1)) cy2)).setCell ⟨R1, 1, none⟩ (.bool p2)).setCell ⟨R1, 2, none⟩ (.slice a2 n2 c2)).setCell ⟨R1, 3, none⟩ (.slice b2 m2 d2_) = W5 at *
    have VA := VA_n
    have VB := VB_n
    have KA := KA_n
    have KB := KB_n
    have CO := CO_n
    have ht := ht_n
    have BB := BB_n
    clear VA_n VB_n KA_n KB_n CO_n ht_n BB_n
    refine hK.out _ _ trivial (fun _ => ?_)
    clear hK K
    simp only [Act.put, xL4, xL5, xL6]
    refine wpAnyH_ready (rs := [7]) (by kernel_rfl) (by simp) ?_
    refine AllReadyH.cons (by rfl) (fun K hK => ?_) AllReadyH.nil
    have hKp := VB.keepJ (.slice none 0 0) (.bool false) (.slice none 0 0) (.slice none 0 0)
    have hGr := grown_set4 W5 (R1 + 1) (.slice none 0 0) (.bool false) (.slice none 0 0) (.slice none 0 0)
    have VB_n := VB.same (.slice none 0 0) (.bool false) (.slice none 0 0) (.slice none 0 0)
    have VA_n := VA.other4 (R := R1 + 1) (by omega) (.slice none 0 0) (.bool false) (.slice none 0 0) (.slice none 0 0)
    have KA_n := KA.store (.inr rfl) hGr hKp
    have KB_n := KB.store (.inr rfl) hGr hKp
    have CO_n := CO.store (.inr rfl) hGr hKp
    have ht_n := ht.keep hKp
    have BB_n := below_store4 (R := R1 + 1) BB (by omega) (.slice none 0 0) (.bool false) (.slice none 0 0) (.slice none 0 0)
    obtain ⟨⟨x1, x2, x3, x4, x5, x6⟩, x7, x8⟩ := id VB
    go_simp
    clear x1 x2 x3 x4 x5 x6 x7 x8
    clear hKp hGr VA VB KA KB CO ht BB
    generalize (((W5.setCell ⟨R1 + 1, 0, none⟩ (.slice none 0 0)).setCell ⟨R1 + 1, 1, none⟩ (.bool false)).setCell ⟨R1 + 1, 2, none⟩ (.slice none 0 0)).setCell ⟨R1 + 1, 3, none⟩ (.slice none 0 0) = W6 at *
    have VA := VA_n
    have VB := VB_n
    have KA := KA_n
    have KB := KB_n
    have CO := CO_n
    have ht := ht_n
    have BB := BB_n
    clear VA_n VB_n KA_n KB_n CO_n ht_n BB_n
    refine hK.out _ _ trivial (fun _ => ?_)
    clear hK K
    simp only [Act.put, xL4, xL5, xL6]
    refine wpAnyH_done (by kernel_rfl) ?_ _
    go_wp2
    go_roundw
    case rel => exact ⟨t + 1, g5, cap5, _, _, _, _, _, _, _, _, hlt, rfl, VA, KB, .inr ⟨by omega, VB⟩, CO, ht, BB⟩
    case measure => simp only [lenC]; omega
  ·obtain ⟨⟨x1, x2, x3, x4, x5, x6⟩, x7, x8⟩ := id VB
   go_wp2
   go_ret
   refine ⟨_, rfl, ?_, BB⟩
   have hr := CO.row (by omega)
   rw [show t + 1 = T from hEnd] at hr
   rw [show t + 1 = T from hEnd]
   exact hr

end Go.Proofs.YtnbocjbfieklhabGreatDoor

namespace Go.Proofs.YtnbocjbfieklhabGreatDoor
set_option linter.unusedVariables false

/-- Two links, one behind the other. -/
structure Two where
 na : Nat
 qa : Nat → Rat
 ra : Rat
 nb : Nat
 qb : Nat → Rat
 rb : Rat
def Two.rest (s : Two) : Nat → Rat := divR s.qb (s.nb - 1) (s.na - (s.nb - 1)) s.qa
def Two.len (s : Two) : Nat := if s.nb = 0 then 0 else trimN s.rest (min s.na (s.nb - 1))
def Two.next (s : Two) : Two := ⟨s.nb, s.qb, s.rb, s.len, fun i => s.rest i * (s.rest (s.len - 1))⁻¹, s.rest (s.len - 1) * -(s.ra)⟩
def dQ (q : Nat → Rat) (i : Nat) : Rat := q (i + 1) * (((i + 1 : Nat) : Int) : Rat)
def Two.start (n : Nat) (q : Nat → Rat) : Two :=
 ⟨trimN q n, fun i => q i * (q (trimN q n - 1))⁻¹, q (trimN q n - 1), trimN (dQ q) (n - 1), fun i => dQ q i * (dQ q (trimN (dQ q) (n - 1) - 1))⁻¹, dQ q (trimN (dQ q) (n - 1) - 1)⟩
def chs (n : Nat) (q : Nat → Rat) : Nat → Two
 | 0 => Two.start n q
 | t + 1 => (chs n q t).next
def cN (n : Nat) (q : Nat → Rat) (t : Nat) : Nat := (chs n q t).na
def cQ (n : Nat) (q : Nat → Rat) (t : Nat) : Nat → Rat := (chs n q t).qa
def cR (n : Nat) (q : Nat → Rat) (t : Nat) : Rat := (chs n q t).ra
theorem cN_next (n : Nat) (q : Nat → Rat) (t : Nat) : cN n q (t + 1) = (chs n q t).nb := rfl
theorem cN_two (n : Nat) (q : Nat → Rat) (t : Nat) (h : 0 < cN n q (t + 1)) : cN n q (t + 2) = trimN (restQ (cN n q) (cQ n q) t) (min (cN n q t) (cN n q (t + 1) - 1)) := by
 show (chs n q t).len = _
 unfold Two.len
 rw [if_neg (by rw [← cN_next]; omega)]
 rfl
theorem cQ_two (n : Nat) (q : Nat → Rat) (t i : Nat) : cQ n q (t + 2) i = restQ (cN n q) (cQ n q) t i * (restQ (cN n q) (cQ n q) t (cN n q (t + 2) - 1))⁻¹ := rfl
theorem cR_two (n : Nat) (q : Nat → Rat) (t : Nat) : cR n q (t + 2) = restQ (cN n q) (cQ n q) t (cN n q (t + 2) - 1) * -(cR n q t) := rfl
theorem trim_len (f : Nat → Rat) : ∀ (n m : Nat), m ≤ n → (∀ i, m ≤ i → i < n → f i = 0) → (0 < m → f (m - 1) ≠ 0) → trimN f n = m
 | 0, m, h, _, _ => by
  obtain rfl : m = 0 := by omega
  rfl
 | n + 1, m, h, hz, ht => by
  show (if f n = 0 then trimN f n else n + 1) = m
  by_cases e : m = n + 1
  ·subst e
   have h9 := ht (by omega)
   rw [Nat.add_sub_cancel] at h9
   rw [if_neg h9]
  ·rw [if_pos (hz n (by omega) (by omega))]
   exact trim_len f n m (by omega) (fun i h1 h2 => hz i h1 (by omega)) ht
/-- The slope is shorter by one. -/
theorem dQ_len (n : Nat) (q : Nat → Rat) : trimN (dQ q) (n - 1) = trimN q n - 1 := by
 rcases Nat.eq_zero_or_pos (trimN q n) with h | h
 ·rcases Nat.eq_zero_or_pos (trimN (dQ q) (n - 1)) with e | e
  ·omega
  ·have ht := trimN_top _ _ e
   have hl := trimN_le (dQ q) (n - 1)
   have hz := trimN_zero q n (trimN (dQ q) (n - 1) - 1 + 1) (by omega) (by omega)
   unfold dQ at ht
   unfold dQ at hz
   rw [hz, Rat.zero_mul] at ht
   exact absurd rfl ht
 ·have hn := trimN_le q n
  have htop := trimN_top q n h
  refine trim_len (dQ q) (n - 1) (trimN q n - 1) (by omega) (fun i h1 h2 => ?_) (fun h2 => ?_)
  ·show q (i + 1) * _ = 0
   rw [trimN_zero q n (i + 1) (by omega) (by omega), Rat.zero_mul]
  ·show q (trimN q n - 1 - 1 + 1) * (((trimN q n - 1 - 1 + 1 : Nat) : Int) : Rat) ≠ 0
   rw [show trimN q n - 1 - 1 + 1 = trimN q n - 1 by omega]
   intro e
   rcases Rat.mul_eq_zero.1 e with e | e
   ·exact htop e
   ·have : ((trimN q n - 1 : Nat) : Int) = 0 := by exact_mod_cast e
    omega
def vz : Nat → Nat
 | 0 => 1484
 | 1 => 614
 | 2 => 254
 | 3 => 104
 | 4 => 44
 | _ => 14
theorem vz_two : ∀ la, la < 7 → ∀ lb, lb < la → 0 < lb → vz (la - 1) ≤ vz lb ∧ vz la + (la - (lb - 1)) * (vz (la - 1) + 1) ≤ vz (lb - 1) := by decide
theorem vz_le : ∀ x, x < 7 → vz x ≤ 1484 ∧ 14 ≤ vz x ∧ (0 < x → vz x ≤ 614) := by decide
theorem IForm.nil' {q : Nat → Rat} {h : Nat} (hh : 1 ≤ h) : IForm 0 q h := ⟨1, fun _ => 0, by decide, Nat.le_trans nlw_one hh, fun i hi => by omega⟩
/-- What stands at each place of the chain. -/
structure ChSt (s : Two) : Prop where
 lt : s.nb < s.na ∨ (s.na = 0 ∧ s.nb = 0)
 six : s.na ≤ 6
 fa : IForm s.na s.qa (vz s.na)
 fb : IForm s.nb s.qb (vz (s.na - 1))
 ta : 0 < s.na → s.qa (s.na - 1) = 1
 tb : 0 < s.nb → s.qb (s.nb - 1) = 1
 za : 0 < s.na → s.ra ≠ 0
 zb : 0 < s.nb → s.rb ≠ 0
theorem Two.len_top (s : Two) (h : 0 < s.len) : s.rest (s.len - 1) ≠ 0 ∧ 0 < s.nb ∧ s.len ≤ s.na ∧ s.len + 1 ≤ s.nb := by
 unfold Two.len at h ⊢
 by_cases e : s.nb = 0
 ·rw [if_pos e] at h; omega
 ·rw [if_neg e] at h ⊢
  have := trimN_le s.rest (min s.na (s.nb - 1))
  exact ⟨trimN_top _ _ h, by omega, by omega, by omega⟩
theorem ChSt.next {s : Two} (h : ChSt s) : ChSt s.next := by
 have hsix := h.six
 have hlen : s.len < s.nb ∨ (s.nb = 0 ∧ s.len = 0) := by
  rcases Nat.eq_zero_or_pos s.nb with e | e
  ·exact Or.inr ⟨e, by unfold Two.len; rw [if_pos e]⟩
  ·rcases Nat.eq_zero_or_pos s.len with e2 | e2
   ·exact Or.inl (by omega)
   ·exact Or.inl (by have := (s.len_top e2).2.2.2; omega)
 have hba : s.nb ≤ s.na := by rcases h.lt with e | e <;> omega
 refine ⟨hlen, by show s.nb ≤ 6; omega, ?_, ?_, h.tb, fun e => ?_, h.zb, fun e => ?_⟩
 ·show IForm s.nb s.qb (vz s.nb)
  rcases Nat.eq_zero_or_pos s.nb with e | e
  ·rw [e]; exact IForm.nil' (by decide)
  ·exact h.fb.le (vz_two s.na (by omega) s.nb (by rcases h.lt with g | g <;> omega) e).1
 ·show IForm s.len (fun i => s.rest i * (s.rest (s.len - 1))⁻¹) (vz (s.nb - 1))
  rcases Nat.eq_zero_or_pos s.len with e | e
  ·rw [e]; exact IForm.nil' (by have := (vz_le (s.nb - 1) (by omega)).2.1; omega)
  ·obtain ⟨h1, h2, h3, h4⟩ := s.len_top e
   have hv := vz_two s.na (by omega) s.nb (by rcases h.lt with g | g <;> omega) h2
   have f := (form_div h.fa h.fb h2 (by rw [h.tb h2]; decide)).le hv.2
   exact (f.less h3).monic (by omega) h1
 ·exact Rat.mul_inv_cancel _ (s.len_top e).1
 ·show s.rest (s.len - 1) * -(s.ra) ≠ 0
  obtain ⟨h1, h2, h3, h4⟩ := s.len_top e
  intro g
  rcases Rat.mul_eq_zero.1 g with g | g
  ·exact h1 g
  ·exact h.za (by omega) (by grind)
theorem ChSt.start {n : Nat} {q : Nat → Rat} (hn : n ≤ 6) (hq : ∀ i, i < n → qsz (q i) ≤ 2) : ChSt (Two.start n q) := by
 have hl := dQ_len n q
 have hle := trimN_le q n
 have ht := trimN_top q n
 have ht2 := trimN_top (dQ q) (n - 1)
 have fq : IForm n q 13 := (IForm.of_sz 2 q n hq).le (by omega)
 have fd : IForm (n - 1) (dQ q) 14 := by
  obtain ⟨D, z, h1, h2, h3⟩ := fq
  refine ⟨D, fun i => z (i + 1) * ((i + 1 : Nat) : Int), h1, by omega, fun i hi => ⟨?_, nlz_mul (h3 (i + 1) (by omega)).2 (show nl W32 ((i + 1 : Nat) : Int).natAbs ≤ 1 from nl_le W32 _ 1 (by decide) (by rw [Int.natAbs_natCast]; unfold W32; omega)) (by omega)⟩⟩
  show q (i + 1) * (((i + 1 : Nat) : Int) : Rat) * (D : Rat) = _
  rw [Rat.intCast_mul, ← (h3 (i + 1) (by omega)).1]
  grind
 refine ⟨?_, by show trimN q n ≤ 6; omega, ?_, ?_, fun h => Rat.mul_inv_cancel _ (ht h), fun h => Rat.mul_inv_cancel _ (ht2 h), ht, ht2⟩
 ·show trimN (dQ q) (n - 1) < trimN q n ∨ (trimN q n = 0 ∧ trimN (dQ q) (n - 1) = 0)
  omega
 ·show IForm (trimN q n) (fun i => q i * (q (trimN q n - 1))⁻¹) (vz (trimN q n))
  have hv := vz_le (trimN q n) (by omega)
  rcases Nat.eq_zero_or_pos (trimN q n) with e | e
  ·rw [e]; exact IForm.nil' (by decide)
  ·exact ((fq.less hle).monic (by omega) (ht e)).le (by omega)
 ·show IForm (trimN (dQ q) (n - 1)) (fun i => dQ q i * (dQ q (trimN (dQ q) (n - 1) - 1))⁻¹) (vz (trimN q n - 1))
  have hv := vz_le (trimN q n - 1) (by omega)
  rcases Nat.eq_zero_or_pos (trimN (dQ q) (n - 1)) with e | e
  ·rw [e]; exact IForm.nil' (by omega)
  ·exact ((fd.less (trimN_le _ _)).monic (by omega) (ht2 e)).le (by omega)
theorem ChSt.all {n : Nat} {q : Nat → Rat} (hn : n ≤ 6) (hq : ∀ i, i < n → qsz (q i) ≤ 2) : ∀ t, ChSt (chs n q t)
 | 0 => ChSt.start hn hq
 | t + 1 => (ChSt.all hn hq t).next
theorem cR_sz {n : Nat} {q : Nat → Rat} (hn : n ≤ 6) (hq : ∀ i, i < n → qsz (q i) ≤ 2) : ∀ t, (0 < cN n q t → qsz (cR n q t) ≤ 14 + 614 * t) ∧ (0 < cN n q (t + 1) → qsz (cR n q (t + 1)) ≤ 14 + 614 * (t + 1))
 | 0 => by
  have hle := trimN_le q n
  have hl := dQ_len n q
  refine ⟨fun h => Nat.le_trans (hq _ ?_) (by omega), fun h => ?_⟩
  ·have : 0 < trimN q n := h
   omega
  ·have h2 : 0 < trimN (dQ q) (n - 1) := h
   have h3 := trimN_le (dQ q) (n - 1)
   show qsz (q (trimN (dQ q) (n - 1) - 1 + 1) * (((trimN (dQ q) (n - 1) - 1 + 1 : Nat) : Int) : Rat)) ≤ _
   exact Nat.le_trans (qsz_mul _ _ (hq _ (by omega)) (qsz_int (L := 1) _ (nl_le W32 _ 1 (by decide) (by rw [Int.natAbs_natCast]; unfold W32; omega)) (by omega))) (by omega)
 | t + 1 => by
  have ih := cR_sz hn hq t
  refine ⟨ih.2, fun h => ?_⟩
  have hs := ChSt.all hn hq t
  have h0 : 0 < (chs n q t).len := h
  obtain ⟨h1, h2, h3, h4⟩ := (chs n q t).len_top h0
  have hsix := hs.six
  have hv := vz_two (chs n q t).na (by omega) (chs n q t).nb (by rcases hs.lt with g | g <;> omega) h2
  have hu := (vz_le ((chs n q t).nb - 1) (by rcases hs.lt with g | g <;> omega)).2.2 (by omega)
  have f := (form_div hs.fa hs.fb h2 (by rw [hs.tb h2]; decide)).le hv.2
  have hz := Nat.le_trans (f.sz (by have := (vz_le ((chs n q t).nb - 1) (by rcases hs.lt with g | g <;> omega)).2.1; omega) ((chs n q t).len - 1) (by omega)) hu
  have hra := ih.1 (show 0 < (chs n q t).na by omega)
  rw [cR_two]
  refine Nat.le_trans (qsz_mul _ _ (show qsz (restQ (cN n q) (cQ n q) t (cN n q (t + 2) - 1)) ≤ 614 from hz) (show qsz (-(cR n q t)) ≤ 14 + 614 * t by rw [qsz_neg]; exact hra)) (by omega)
theorem cN_down {n : Nat} {q : Nat → Rat} (hn : n ≤ 6) (hq : ∀ i, i < n → qsz (q i) ≤ 2) : ∀ t, cN n q t ≤ 6 - t
 | 0 => (ChSt.all hn hq 0).six
 | t + 1 => by
  have ih := cN_down hn hq t
  have hs := (ChSt.all hn hq t).lt
  have e1 : cN n q (t + 1) = (chs n q t).nb := rfl
  have e2 : cN n q t = (chs n q t).na := rfl
  omega
theorem first_zero (f : Nat → Nat) : ∀ k, (∀ t, t < k → 0 < f t) ∨ ∃ T, T < k ∧ (∀ t, t < T → 0 < f t) ∧ f T = 0
 | 0 => Or.inl (fun t h => by omega)
 | k + 1 => by
  rcases first_zero f k with h | ⟨T, h1, h2, h3⟩
  ·rcases Nat.eq_zero_or_pos (f k) with e | e
   ·exact Or.inr ⟨k, by omega, h, e⟩
   ·refine Or.inl (fun t ht => ?_)
    by_cases g : t = k
    ·rw [g]; exact e
    ·exact h t (by omega)
  ·exact Or.inr ⟨T, by omega, h2, h3⟩
/-- The chain of a polynomial. -/
theorem chain_is {n : Nat} {q : Nat → Rat} (hn : n ≤ 6) (hq : ∀ i, i < n → qsz (q i) ≤ 2) : ∃ T, T ≤ 6 ∧ (∀ t, t < T → 0 < cN n q t) ∧ cN n q T = 0 ∧ IsChainS T (cN n q) (cQ n q) (cR n q) 4000 := by
 obtain ⟨T, h1, h2, h3⟩ : ∃ T, T < 7 ∧ (∀ t, t < T → 0 < cN n q t) ∧ cN n q T = 0 := by
  rcases first_zero (cN n q) 7 with h | h
  ·have := h 6 (by omega)
   have := cN_down hn hq 6
   omega
  ·exact h
 have hst := ChSt.all hn hq
 refine ⟨T, by omega, h2, h3, h2, h3, fun t _ => Nat.le_trans (hst t).six (by omega), fun t i ht hi => ?_, fun t ht => Nat.le_trans ((cR_sz hn hq t).1 (h2 t ht)) (by omega), fun t ht => ?_, fun t ht => (cN_two n q t (h2 (t + 1) ht)).symm, fun t ht => ?_, fun t i ht hi => ?_, fun t ht => ⟨fun i hi => rfl, rfl⟩, by omega, by omega⟩
 ·have hv := vz_le (chs n q t).na (by have := (hst t).six; omega)
  exact Nat.le_trans ((hst t).fa.sz (by omega) i hi) (by omega)
 ·show (chs n q t).qa ((chs n q t).na - 1) ≠ 0
  rw [(hst t).ta (h2 t ht)]; decide
 ·have hb : 0 < (chs n q t).nb := h2 (t + 1) ht
  have hsix := (hst t).six
  have hv := vz_two (chs n q t).na (by omega) (chs n q t).nb (by rcases (hst t).lt with g | g <;> omega) hb
  have hu := vz_le ((chs n q t).nb - 1) (by rcases (hst t).lt with g | g <;> omega)
  have hu2 := vz_le (chs n q t).na (by omega)
  show allS (chs n q t).na (chs n q t).qb ((chs n q t).nb - 1) 40000 ((chs n q t).na - ((chs n q t).nb - 1)) (chs n q t).qa
  exact allS_div (hst t).fa (hst t).fb hb (by rw [(hst t).tb hb]; decide) (by omega) (Nat.le_trans hv.2 (by omega))
 ·have hb : 0 < (chs n q t).nb := h2 (t + 1) ht
  have hsix := (hst t).six
  have hv := vz_two (chs n q t).na (by omega) (chs n q t).nb (by rcases (hst t).lt with g | g <;> omega) hb
  have hu := vz_le ((chs n q t).nb - 1) (by rcases (hst t).lt with g | g <;> omega)
  have f := (form_div (hst t).fa (hst t).fb hb (by rw [(hst t).tb hb]; decide)).le hv.2
  have hi2 : i < (chs n q t).len := hi
  have := (chs n q t).len_top (by omega)
  exact Nat.le_trans (f.sz (by omega) i (by omega)) (by omega)
theorem stepR_scale (b a : Nat → Rat) (below k : Nat) (s r : Rat) (hs : s ≠ 0) (hb : b below ≠ 0) (j : Nat) : stepR (fun j => b j * s) below k (fun j => a j * r) j = stepR b below k a j * r := by
 unfold stepR
 by_cases h : k ≤ j ∧ j < k + below
 ·rw [if_pos h, if_pos h]
  show a j * r - a (k + below) * r / (b below * s) * (b (j - k) * s) = (a j - a (k + below) / b below * b (j - k)) * r
  have e : a (k + below) * r / (b below * s) * s = a (k + below) / b below * r := by
   have h1 : a (k + below) * r / (b below * s) * (b below * s) = a (k + below) * r := Rat.div_mul_cancel (fun e => by rcases Rat.mul_eq_zero.1 e with g | g; exact hb g; exact hs g)
   have h2 : a (k + below) / b below * b below = a (k + below) := Rat.div_mul_cancel hb
   generalize a (k + below) * r / (b below * s) = x at *
   generalize a (k + below) / b below = y at *
   have h3 : (x * s - y * r) * b below = 0 := by rw [← h2] at h1; grind
   rcases Rat.mul_eq_zero.1 h3 with g | g
   ·grind
   ·exact absurd g hb
  generalize a (k + below) * r / (b below * s) = x at *
  generalize a (k + below) / b below = y at *
  grind
 ·rw [if_neg h, if_neg h]
/-- The rest of multiples. -/
theorem divR_scale (b : Nat → Rat) (below : Nat) (s r : Rat) (hs : s ≠ 0) (hb : b below ≠ 0) : ∀ (k : Nat) (a : Nat → Rat) (j : Nat), divR (fun j => b j * s) below k (fun j => a j * r) j = divR b below k a j * r
 | 0, _, _ => rfl
 | k + 1, a, j => by
  show divR (fun j => b j * s) below k (stepR (fun j => b j * s) below k (fun j => a j * r)) j = divR b below k (stepR b below k a) j * r
  have e : stepR (fun j => b j * s) below k (fun j => a j * r) = fun j => stepR b below k a j * r := funext (stepR_scale b a below k s r hs hb)
  rw [e, divR_scale b below s r hs hb k]
theorem IForm.scale {n h S : Nat} {q : Nat → Rat} {r : Rat} (f : IForm n q h) (hr : qsz r ≤ S) : IForm n (fun i => q i * r) (h + S) := by
 obtain ⟨D, z, h1, h2, h3⟩ := f
 have hq : r * ((r.den : Int) : Rat) = (r.num : Rat) := by
  have h := mkRat_mul_den r.num r.den (Nat.pos_of_ne_zero r.den_nz)
  rw [Rat.mkRat_self] at h
  rw [Rat.intCast_natCast]; exact h
 refine ⟨D * (r.den : Int), fun i => z i * r.num, Int.mul_ne_zero h1 (by have := r.den_nz; omega), nlz_mul h2 (by rw [Int.natAbs_natCast]; exact Nat.le_trans (qsz_den r) hr) (Nat.le_refl _), fun i hi => ⟨?_, nlz_mul (h3 i hi).2 (Nat.le_trans (qsz_num r) hr) (Nat.le_refl _)⟩⟩
 show q i * r * _ = _
 rw [Rat.intCast_mul, Rat.intCast_mul, ← (h3 i hi).1, ← hq]
 grind
theorem trimN_scale (q : Nat → Rat) (s : Rat) (hs : s ≠ 0) : ∀ n, trimN (fun i => q i * s) n = trimN q n
 | 0 => rfl
 | n + 1 => by
  show (if q n * s = 0 then trimN (fun i => q i * s) n else n + 1) = (if q n = 0 then trimN q n else n + 1)
  by_cases h : q n = 0
  ·rw [if_pos h, if_pos (by rw [h, Rat.zero_mul]), trimN_scale q s hs n]
  ·rw [if_neg h, if_neg (fun e => by rcases Rat.mul_eq_zero.1 e with g | g; exact h g; exact hs g)]

end Go.Proofs.YtnbocjbfieklhabGreatDoor

namespace Go.Proofs.YtnbocjbfieklhabGreatDoor
open Go.RowKit
set_option linter.unusedVariables false
set_option linter.unusedSimpArgs false


set_option maxRecDepth 100000 in
set_option maxHeartbeats 8000000 in
theorem plinks_one (v : Value) (n : Nat) (q : Nat → Rat) (N0 : Nat) (Q0 : Nat → Rat) (R0 : Rat) (L : Nat) (w : World) (hv : QRow w v n q L) (ht : Tab w) (hn : n ≤ 1000) (hL2 : 2 ≤ L) (hLM : L ≤ 20000) (e0 : trimN q n = N0) (h0 : 0 < N0) (e1 : ∀ i, i < N0 → q i * (q (N0 - 1))⁻¹ = Q0 i) (e2 : q (N0 - 1) * 1 = R0) (d0 : trimN (fun i => q (i + 1) * (((i + 1 : Nat) : Int) : Rat)) (n - 1) = 0) :
  Calls Tryz.prog 24 #[v] w fun e w' => ∃ u, e = .returned u ∧ CRow w' u 1 (fun _ => N0) (fun _ => Q0) (fun _ => R0) ∧ Below w.heap.size w w' := by
 have S1 : qsz (1 : Rat) ≤ L := Nat.le_trans (by decide +kernel) hL2
 obtain ⟨ao, c, rfl, _, _, _⟩ := hv.open
 have BB : Below w.heap.size w w := Below.refl _ _
 go_enter Tryz.func24, Tryz.ntmps24
 go_wp2_with fail
 refine (qone_at _).mono ?_
 rintro e w1 ⟨x1, rfl, h1, b1⟩
 replace hv := hv.below b1
 replace ht := ht.below b1
 replace BB := BB.trans (b1.mono BB.size)
 clear b1
 go_wp2_with fail
 refine (plinkq_val _ _ n L L q Q0 1 R0 _ hv h1 S1 ht (by omega) hn (by omega) N0 e0 h0 e1 e2).mono ?_
 rintro e w2 ⟨y0, rfl, K0, b2⟩
 replace hv := hv.below b2
 replace ht := ht.below b2
 replace h1 := h1.below b2
 replace BB := BB.trans (b2.mono BB.size)
 clear b2
 go_wp2_with fail
 clear h1
 refine (pderive_at _ n q L _ hv ht (by omega) hL2 (by omega)).mono ?_
 rintro e w3 ⟨x2, rfl, FD, b3⟩
 replace hv := hv.below b3
 replace ht := ht.below b3
 replace K0 := K0.below b3
 replace BB := BB.trans (b3.mono BB.size)
 clear b3
 rw [d0] at FD
 go_wp2_with fail
 refine (qone_at _).mono ?_
 rintro e w4 ⟨x3, rfl, h3, b4⟩
 replace hv := hv.below b4
 replace ht := ht.below b4
 replace K0 := K0.below b4
 replace FD := FD.below b4
 replace BB := BB.trans (b4.mono BB.size)
 clear b4
 go_wp2_with fail
 refine (plink_zero _ _ 0 L (fun i => q (i + 1) * (((i + 1 : Nat) : Int) : Rat)) 1 _ FD.1 h3 (fun i hi => by omega) (by omega) (by omega) rfl).mono ?_
 rintro e w5 ⟨rfl, b5⟩
 replace hv := hv.below b5
 replace ht := ht.below b5
 replace K0 := K0.below b5
 replace FD := FD.below b5
 replace h3 := h3.below b5
 replace BB := BB.trans (b5.mono BB.size)
 clear b5
 clear h3 FD hv
 obtain ⟨am0, cm0, p0, a0, n0, c0, b0, m0, d0_, rfl, F0, r0⟩ := K0
 have FF0 := F0.1.ffar
 clear F0
 have hZ1 : w.heap.size ≤ w5.heap.size := BB.size
 obtain ⟨W2, hW2, hS2, hL2, VA⟩ := V4.lay w5 54 (.slice am0 N0 cm0) (.bool p0) (.slice a0 n0 c0) (.slice b0 m0 d0_)
 replace ht := ht.below hL2
 replace FF0 := FF0.below hL2
 replace r0 := r0.below hL2
 replace BB := BB.trans (hL2.mono BB.size)
 clear hL2
 obtain ⟨W3, hW3, hS3, hL3, VB⟩ := V4.lay W2 54 (.slice none 0 0) (.bool false) (.slice none 0 0) (.slice none 0 0)
 replace ht := ht.below hL3
 replace FF0 := FF0.below hL3
 replace r0 := r0.below hL3
 replace VA := VA.below hL3
 replace BB := BB.trans (hL3.mono BB.size)
 clear hL3
 rw [hS2] at VB
 go_upto_if 18 with (fail)
 rw [← hW2]
 rw [← hW3]
 generalize w5.heap.size = R1 at *
 clear hW2 hS2 hW3 hS3
 have hVA := VA.lt
 have hVB := VB.lt
 have hZ0 : w.heap.size ≤ R1 := by omega
 obtain ⟨⟨x1, x2, x3, x4, x5, x6⟩, x7, x8⟩ := id VA
 have HN0 : (0 : Int) < (N0 : Int) := by omega
 have A2 : Below W3.heap.size W3 (W3.alloc (.cells #[.slice am0 N0 cm0, .bool p0, .slice a0 n0 c0, .slice b0 m0 d0_] 54)) := (Below.refl _ _).alloc (Nat.le_refl _) _
 go_wp2_with (at_builtin; refine wpList_append_pure (Q' := IsNum) rfl _ _ _ rfl w.heap.size 54 (.agg #[.slice none 0 0, .bool false, .slice none 0 0, .slice none 0 0]) 4 80 Tryz.underlying51 info_link rfl (by omega) (.slice none 0 0) rfl (0) ([]) (World.ownsRow_nil _ _ _ _) (fun g hg => by cases hg) ⟨W3.heap.size, 0, none⟩ 1 rfl [.slice am0 N0 cm0, .bool p0, .slice a0 n0 c0, .slice b0 m0 d0_] rfl (news_block (heap_alloc_new _ _)) (by simp [Value.oneCell']) (by simp [num_slice, num_bool]) (by simp [Value.cells, num_slice, num_bool]) (by omega) (by omega) (by have := BB.size; simp; omega) ?_)
 intro g5 cap5 w5 ho5 hg5 hat5 hp5 hk5
 clear x1 x2 x3 x4 x5 x6 x7 x8
 replace hat5 : (Value.slice none 0 0).ownBlock = some g5 ∨ g5 = (W3.alloc (.cells #[.slice am0 N0 cm0, .bool p0, .slice a0 n0 c0, .slice b0 m0 d0_] 54)).heap.size := by rw [World.size_alloc]; exact hat5
 have hb5 := below_grown hg5
 have A5 : Below W3.heap.size W3 w5 := A2.trans (hb5.mono A2.size)
 have E5 : COwn R1 (R1 + 1) w.heap.size w5 (.slice (some ⟨g5, 0, none⟩) (0 + 1) cap5) (0 + 1) (fun _ => N0) (fun _ => Q0) (fun _ => R0) := COwn.more (World.ownsRow_nil _ _ _ _) (fun g hg => by cases hg) (fun i hi => by omega) ⟨FF0.fap.below A2, r0.below A2⟩ (by have := A2.size; omega) (by have := A2.size; omega) ho5 hg5 hat5 hp5 hk5
 replace VB := VB.below A5
 have B5 : Below w.heap.size w w5 := BB.trans (A5.mono BB.size)
 have CR := E5.row (by omega)
 clear A2 A5 hb5 ho5 hg5 hat5 hp5 hk5 BB FF0 r0 E5 VA ht
 go_wp2
 go_loopw [3] (fun vo wr => vo = .slice (some ⟨g5, 0, none⟩) 1 cap5 ∧ wr = w5) (fun _ _ => 0)
 case atStart => exact ⟨rfl, rfl⟩
 case round =>
  obtain ⟨rfl, hwr⟩ := hrel
  subst hwr
  obtain ⟨⟨x1, x2, x3, x4, x5, x6⟩, x7, x8⟩ := id VB
  go_wp2
  go_ret
  exact ⟨_, rfl, CR, B5⟩


set_option maxRecDepth 100000 in
set_option maxHeartbeats 8000000 in
theorem plinks_none (v : Value) (n : Nat) (q : Nat → Rat) (L : Nat) (w : World) (hv : QRow w v n q L) (ht : Tab w) (hn : n ≤ 1000) (hL2 : 2 ≤ L) (hLM : L ≤ 20000) (e0 : trimN q n = 0) (d0 : trimN (fun i => q (i + 1) * (((i + 1 : Nat) : Int) : Rat)) (n - 1) = 0) :
  Calls Tryz.prog 24 #[v] w fun e w' => e = .returned (.slice none 0 0) ∧ Below w.heap.size w w' := by
 have S1 : qsz (1 : Rat) ≤ L := Nat.le_trans (by decide +kernel) hL2
 obtain ⟨ao, c, rfl, _, _, _⟩ := hv.open
 have BB : Below w.heap.size w w := Below.refl _ _
 go_enter Tryz.func24, Tryz.ntmps24
 go_wp2_with fail
 refine (qone_at _).mono ?_
 rintro e w1 ⟨x1, rfl, h1, b1⟩
 replace hv := hv.below b1
 replace ht := ht.below b1
 replace BB := BB.trans (b1.mono BB.size)
 clear b1
 go_wp2_with fail
 refine (plinkq_zero _ _ n L q 1 _ hv h1 (by omega) (by omega) e0).mono ?_
 rintro e w2 ⟨rfl, b2⟩
 replace hv := hv.below b2
 replace ht := ht.below b2
 replace h1 := h1.below b2
 replace BB := BB.trans (b2.mono BB.size)
 clear b2
 go_wp2_with fail
 clear h1
 refine (pderive_at _ n q L _ hv ht (by omega) hL2 (by omega)).mono ?_
 rintro e w3 ⟨x2, rfl, FD, b3⟩
 replace hv := hv.below b3
 replace ht := ht.below b3
 replace BB := BB.trans (b3.mono BB.size)
 clear b3
 rw [d0] at FD
 go_wp2_with fail
 refine (qone_at _).mono ?_
 rintro e w4 ⟨x3, rfl, h3, b4⟩
 replace hv := hv.below b4
 replace ht := ht.below b4
 replace FD := FD.below b4
 replace BB := BB.trans (b4.mono BB.size)
 clear b4
 go_wp2_with fail
 refine (plink_zero _ _ 0 L (fun i => q (i + 1) * (((i + 1 : Nat) : Int) : Rat)) 1 _ FD.1 h3 (fun i hi => by omega) (by omega) (by omega) rfl).mono ?_
 rintro e w5 ⟨rfl, b5⟩
 replace hv := hv.below b5
 replace ht := ht.below b5
 replace FD := FD.below b5
 replace h3 := h3.below b5
 replace BB := BB.trans (b5.mono BB.size)
 clear b5
 clear h3 FD hv
 have hZ1 : w.heap.size ≤ w5.heap.size := BB.size
 obtain ⟨W2, hW2, hS2, hL2, VA⟩ := V4.lay w5 54 (.slice none 0 0) (.bool false) (.slice none 0 0) (.slice none 0 0)
 replace ht := ht.below hL2
 replace BB := BB.trans (hL2.mono BB.size)
 clear hL2
 obtain ⟨W3, hW3, hS3, hL3, VB⟩ := V4.lay W2 54 (.slice none 0 0) (.bool false) (.slice none 0 0) (.slice none 0 0)
 replace ht := ht.below hL3
 replace VA := VA.below hL3
 replace BB := BB.trans (hL3.mono BB.size)
 clear hL3
 rw [hS2] at VB
 go_upto_if 18 with (fail)
 rw [← hW2]
 rw [← hW3]
 generalize w5.heap.size = R1 at *
 clear hW2 hS2 hW3 hS3
 have hVA := VA.lt
 have hVB := VB.lt
 have hZ0 : w.heap.size ≤ R1 := by omega
 obtain ⟨⟨x1, x2, x3, x4, x5, x6⟩, x7, x8⟩ := id VA
 go_wp2
 clear x1 x2 x3 x4 x5 x6 x7 x8
 go_loopw [3] (fun vo wr => vo = .slice none 0 0 ∧ wr = W3) (fun _ _ => 0)
 case atStart => exact ⟨rfl, rfl⟩
 case round =>
  obtain ⟨rfl, hwr⟩ := hrel
  subst hwr
  obtain ⟨⟨x1, x2, x3, x4, x5, x6⟩, x7, x8⟩ := id VB
  go_wp2
  go_ret
  exact ⟨rfl, BB⟩

/-- A number or a truth value. -/
def IsNB (v : Value) : Prop := IsNum v ∨ ∃ b, v = .bool b
theorem nb_slice (a : Option Addr) (n c : Nat) : ¬ IsNB (.slice a n c) := by
 rintro (h | ⟨b, h⟩)
 ·exact num_slice _ _ _ h
 ·cases h
/-- What rows of numbers stand on lies as it lay. -/
structure KeepF (w w' : World) : Prop where
 num : KeepQ IsNum w w'
 row : ∀ b o v, w.cell? ⟨b, o, none⟩ = some (.bool v) → ∀ o' u, w.cell? ⟨b, o', none⟩ = some u → w'.cell? ⟨b, o', none⟩ = some u
theorem KeepF.refl (w : World) : KeepF w w := ⟨KeepQ.refl _ _, fun _ _ _ _ _ _ h => h⟩
theorem KeepF.trans {a b c : World} (h : KeepF a b) (k : KeepF b c) : KeepF a c :=
 ⟨h.num.trans k.num, fun x o v hv o' u hu => k.row x o v (h.row x o v hv o _ hv) o' u (h.row x o v hv o' u hu)⟩
theorem KeepF.of_below {w w' : World} (hb : Below w.heap.size w w') : KeepF w w' :=
 ⟨KeepQ.below hb, fun b o v _ o' u hu => (hb.cell (World.block_lt_of_cell? w _ hu)).trans hu⟩
theorem KeepF.below {a w w' : World} (h : KeepF a w) (hb : Below w.heap.size w w') : KeepF a w' := h.trans (KeepF.of_below hb)
theorem KeepF.grown {w w' : World} {row : Option Nat} (hg : w.grownBy w' row) (hp : ∀ g, row = some g → PureB IsNB w g) (hk : KeepQ IsNB w w') : KeepF w w' := by
 refine ⟨fun b o v h => hk b o v (.inl h), fun b o v hv o' u hu => ?_⟩
 have hne : some b ≠ row := fun e => hp b e.symm o _ hv (.inr ⟨v, rfl⟩)
 exact (World.cell?_of_block (w := w) (hg.block b (World.block_lt_of_cell? w _ hv) hne)).trans hu
theorem KeepF.set {w : World} {R : Nat} (hp : PureB IsNB w R) (x : Value) : KeepF w (w.setCell ⟨R, 0, none⟩ x) := by
 refine ⟨fun b o v h hv => ?_, fun b o v hv o' u hu => ?_⟩
 ·exact set_cell_block hv (fun e => by subst e; exact hp o v hv (.inl h))
 ·exact set_cell_block hu (fun e => by subst e; exact hp o _ hv (.inr ⟨v, rfl⟩))
theorem KeepF.kept {w w' : World} {row : Option Nat} (hg : w.grownBy w' row) (hr : ∀ r, row = some r → ∃ o : Obj, w.heap[r]? = some o ∧ o.isCells = false) : KeepF w w' :=
 ⟨keepQ_kept hg hr, fun b o v _ o' u hu => cell_kept hu hg hr⟩
theorem FRow.keepF {w w' : World} {v : Value} {n : Nat} {q : Nat → Rat} (h : FRow w v n q) (hk : KeepF w w') : FRow w' v n q := by
 obtain ⟨el, ⟨ao, c, h1, h2, h3, h4⟩, h5⟩ := h
 refine ⟨el, ⟨ao, c, h1, h2, h3, fun hn => ?_⟩, fun i hi => (h5 i hi).keep hk.num⟩
 obtain ⟨b, off, e, hc⟩ := h4 hn
 refine ⟨b, off, e, fun i hi j hj => ?_⟩
 obtain ⟨p, ao', m, d, bo, k, e', he⟩ := (h5 i hi).open
 simp only [Value.agg.injEq, Array.mk.injEq, List.cons.injEq, and_true] at he
 have c0 := hc i hi 0 (by omega)
 rw [he.1] at c0
 exact hk.row b _ p c0 _ _ (hc i hi j hj)

theorem info_rats : (Tryz.prog.info? 22).map (fun i => (i.zero, i.size, i.bytes)) = some (some (.slice none 0 0), 1, 24) := by kernel_rfl
/-- A row of polynomials, of the call's own. -/
def DOwn (B : Nat) (w : World) (v : Value) (n : Nat) (N : Nat → Nat) (C : Nat → Nat → Rat) : Prop :=
 ∃ (us : List Value) (el : Nat → Value), w.ownsRow B 22 1 v n us ∧ (∀ g, v.ownBlock = some g → PureB IsNB w g) ∧ (∀ i, i < n → us[i]? = some (el i)) ∧ ∀ i, i < n → FRow w (el i) (N i) (C i)
theorem DOwn.nil (B : Nat) (w : World) (N : Nat → Nat) (C : Nat → Nat → Rat) : DOwn B w (.slice none 0 0) 0 N C :=
 ⟨[], fun _ => .bool false, World.ownsRow_nil _ _ _ _, fun g h => (by cases h), fun i hi => (by omega), fun i hi => (by omega)⟩
theorem DOwn.below {B : Nat} {w w' : World} {v : Value} {n : Nat} {N : Nat → Nat} {C : Nat → Nat → Rat} (h : DOwn B w v n N C) (hb : Below w.heap.size w w') : DOwn B w' v n N C := by
 obtain ⟨us, el, h1, h2, h3, h4⟩ := h
 exact ⟨us, el, owns_later h1 hb, fun g hg => (h2 g hg).below hb (h1.lt g hg).2, h3, fun i hi => (h4 i hi).below hb⟩
theorem DOwn.sl {B : Nat} {w : World} {v : Value} {n : Nat} {N : Nat → Nat} {C : Nat → Nat → Rat} (h : DOwn B w v n N C) : ∃ a c, v = .slice a n c := by
 obtain ⟨us, el, h1, _⟩ := h
 rcases h1.2 with ⟨rfl, rfl⟩ | ⟨g, cap, cur, rfl, _⟩
 ·exact ⟨_, _, rfl⟩
 ·exact ⟨_, _, rfl⟩
theorem DOwn.more {B : Nat} {w w' : World} {n g' cap' : Nat} {N : Nat → Nat} {C : Nat → Nat → Rat} {us : List Value} {el : Nat → Value} {x : Value} (h1 : w'.ownsRow B 22 1 (.slice (some ⟨g', 0, none⟩) (n + 1) cap') (n + 1) (us ++ [x]))
  (hp : PureB IsNB w' g') (hl : us.length = n) (h3 : ∀ i, i < n → us[i]? = some (el i)) (h4 : ∀ i, i < n → FRow w (el i) (N i) (C i)) (hx : FRow w x (N n) (C n)) (hk : KeepF w w') :
  DOwn B w' (.slice (some ⟨g', 0, none⟩) (n + 1) cap') (n + 1) N C := by
 refine ⟨_, fun i => if i < n then el i else x, h1, fun g hg => by simp only [Value.ownBlock, Option.some.injEq] at hg; subst hg; exact hp, fun i hi => ?_, fun i hi => ?_⟩
 ·by_cases hin : i < n
  ·show _ = some (if i < n then el i else x)
   rw [if_pos hin, List.getElem?_append_left (by omega)]; exact h3 i hin
  ·obtain rfl : i = n := by omega
   show _ = some (if i < i then el i else x)
   rw [if_neg hin, List.getElem?_append_right (by omega), hl, Nat.sub_self]; rfl
 ·by_cases hin : i < n
  ·simp only [if_pos hin]; exact (h4 i hin).keepF hk
  ·obtain rfl : i = n := by omega
   simp only [if_neg hin]; exact hx.keepF hk
/-- A row of polynomials. -/
def DRow (w : World) (v : Value) (T : Nat) (N : Nat → Nat) (C : Nat → Nat → Rat) : Prop :=
 ∃ g cap, ∃ el : Nat → Value, v = .slice (some ⟨g, 0, none⟩) T cap ∧ T ≤ cap ∧ cap ≤ 9223372036854775807 ∧ (∀ i, i < T → w.cell? ⟨g, i, none⟩ = some (el i)) ∧ ∀ i, i < T → FRow w (el i) (N i) (C i)
theorem DRow.below {w w' : World} {v : Value} {T : Nat} {N : Nat → Nat} {C : Nat → Nat → Rat} (h : DRow w v T N C) (hb : Below w.heap.size w w') : DRow w' v T N C := by
 obtain ⟨g, cap, el, e, h1, h2, h3, h4⟩ := h
 exact ⟨g, cap, el, e, h1, h2, fun i hi => (hb.cell (World.block_lt_of_cell? w _ (h3 i hi))).trans (h3 i hi), fun i hi => (h4 i hi).below hb⟩
theorem DOwn.row {B : Nat} {w : World} {v : Value} {n : Nat} {N : Nat → Nat} {C : Nat → Nat → Rat} (h : DOwn B w v n N C) (hn : 0 < n) : DRow w v n N C := by
 obtain ⟨us, el, h1, h2, h3, h4⟩ := h
 rcases h1.2 with ⟨rfl, rfl⟩ | ⟨g, cap, cur, rfl, hb, hg, hnc, hcm, rest⟩
 ·omega
 ·exact ⟨g, cap, el, rfl, hnc, by unfold maxLen at hcm; omega, fun i hi => owns_cell h1 (h3 i hi), h4⟩


set_option maxRecDepth 100000 in
set_option maxHeartbeats 8000000 in
theorem pchain_at (v : Value) (T : Nat) (N : Nat → Nat) (Q : Nat → Nat → Rat) (R : Nat → Rat) (L : Nat) (w : World) (ht : Tab w) (hlk : Calls Tryz.prog 24 #[v] w fun e w' => ∃ u, e = .returned u ∧ CRow w' u T N Q R ∧ Below w.heap.size w w') (hT : 0 < T) (hTM : T ≤ 1000000) (sq : ∀ k, k < T → ∀ i, i < N k → qsz (Q k i) ≤ L) (sR : ∀ k, k < T → qsz (R k) ≤ L) (hN : ∀ k, k < T → N k ≤ 1000) (hl : ∀ k, k < T → trimN (fun i => Q k i * R k) (N k) = N k) (hL : 1 ≤ L) (hLM : L ≤ 40000) :
  Calls Tryz.prog 6 #[v] w fun e w' => ∃ y, e = .returned y ∧ DRow w' y T N (fun t i => Q t i * R t) ∧ Below w.heap.size w w' := by
 have BB : Below w.heap.size w w := Below.refl _ _
 go_enter Tryz.func6, Tryz.ntmps6
 go_wp2_with fail
 refine (hlk).mono ?_
 rintro e w1 ⟨u, rfl, CR, b1⟩
 replace ht := ht.below b1
 replace BB := BB.trans (b1.mono BB.size)
 clear b1
 obtain ⟨gl, cap, rfl, hTc, hc63, hCell⟩ := id CR
 have HCR : Hid (CRow w1 (.slice (some ⟨gl, 0, none⟩) T cap) T N Q R) := CR
 clear hCell CR
 have ht0 := ht
 have BW : Hid (Below w.heap.size w w1) := BB
 clear ht BB
 go_wp2
 go_loopw [3, 9] (fun vo vi wr => ∃ k : Nat, k ≤ T ∧ vi = .int .i64 (k : Int) ∧ DOwn w1.heap.size wr vo k N (fun t i => Q t i * R t) ∧ Below w1.heap.size w1 wr) (fun _ vi _ => T - (intOf vi).toNat)
 case atStart => exact ⟨0, by omega, rfl, DOwn.nil _ _ _ _, Below.refl _ _⟩
 case round =>
  obtain ⟨k, hk, rfl, O, BB⟩ := hrel
  obtain ⟨oa, oc, rfl⟩ := O.sl
  by_cases hlt : k < T
  ·have hki : (k : Int) < (T : Int) := by omega
   have hk0 : (0 : Int) ≤ (k : Int) := by omega
   have sqk := sq k hlt
   have hNk := hN k hlt
   have sRk := sR k hlt
   have hLk := hl k hlt
   obtain ⟨g_, cap_, e_, _, _, hcs⟩ := HCR.out.below BB
   cases e_
   obtain ⟨y, p, a, n, c, b, m, d, q1, q2, q3, q4, FY, RY⟩ := hcs k hlt
   obtain ⟨ay, cy, rfl⟩ := FY.open
   clear hcs
   have ht := ht0.below BB
   obtain ⟨W7, hW7, hS7, hL7, VC⟩ := V4.lay wr 54 (.slice ay (N k) cy) (.bool p) (.slice a n c) (.slice b m d)
   replace O := O.below hL7
   replace FY := FY.below hL7
   replace RY := RY.below hL7
   replace ht := ht.below hL7
   replace BB := BB.trans (hL7.mono BB.size)
   obtain ⟨⟨x1, x2, x3, x4, x5, x6⟩, x7, x8⟩ := id VC
   skip
   go_wp2_with fail
   rw [← hW7]
   go_wp2_with fail
   clear x1 x2 x3 x4 x5 x6 x7 x8 q1 q2 q3 q4 VC hL7 hW7 hS7
   refine (pscale_at _ _ (N k) (Q k) (R k) L _ (FY.q L sqk) (RY.at L sRk) ht (by omega) hL hLM).mono ?_
   rintro e w21 ⟨y, rfl, FS, b21⟩
   replace O := O.below b21
   replace FY := FY.below b21
   replace RY := RY.below b21
   replace ht := ht.below b21
   replace BB := BB.trans (b21.mono BB.size)
   clear b21
   rw [hLk] at FS
   have PY : FRow w21 y (N k) (fun i => Q k i * R k) := FS.1
   obtain ⟨ya, yc, rfl⟩ := PY.open
   clear FS FY RY ht
   obtain ⟨us, el', o1, o2, o3, o4⟩ := id O
   have hul : us.length = k := by have := o1.1; omega
   have HO2 : Hid (∀ g0, Value.ownBlock (.slice oa k oc) = some g0 → PureB IsNB w21 g0) := o2
   have HO3 : Hid (∀ i', i' < k → us[i']? = some (el' i')) := o3
   have HO4 : Hid (∀ i', i' < k → FRow w21 (el' i') (N i') (fun i => Q i' i * R i')) := o4
   have hOb : Hid (∀ g0, Value.ownBlock (.slice oa k oc) = some g0 → w1.heap.size ≤ g0) := fun g0 hg0 => (o1.lt g0 hg0).1
   clear o2 o3 o4
   have A9 : Below w21.heap.size w21 (w21.alloc (.cells #[.slice ya (N k) yc] 22)) := (Below.refl _ _).alloc (Nat.le_refl _) _
   go_wp2_with (at_builtin; refine wpList_append_pure (Q' := IsNB) rfl _ _ _ rfl w1.heap.size 22 (.slice none 0 0) 1 24 Tryz.underlying24 info_rats rfl (by omega) (.slice oa k oc) rfl k us (o1.alloc _) (fun g0 hg0 => (HO2.out g0 hg0).below A9 (o1.lt g0 hg0).2) ⟨w21.heap.size, 0, none⟩ 1 rfl [.slice ya (N k) yc] rfl (news_block (heap_alloc_new _ _)) (by simp [Value.oneCell']) (by simp [nb_slice]) (by simp [Value.cells, nb_slice]) (by omega) (by omega) (by have := BB.size; simp; omega) ?_)
   intro g5 cap5 w5 ho5 hg5 hat5 hp5 hk5
   have kf := KeepF.grown hg5 (fun g0 hg0 => (HO2.out g0 hg0).below A9 (o1.lt g0 hg0).2) hk5
   have O5 : DOwn w1.heap.size w5 (.slice (some ⟨g5, 0, none⟩) (k + 1) cap5) (k + 1) N (fun t i => Q t i * R t) := DOwn.more ho5 hp5 hul HO3.out (fun j hj => (HO4.out j hj).below A9) (PY.below A9) kf
   have B5 : Below w1.heap.size w1 w5 := below_grownB (BB.trans (A9.mono BB.size)) hg5 (by have := BB.size; have := A9.size; omega) (fun g0 hg0 => hOb.out g0 hg0)
   clear O BB PY A9 o1 HO2 HO3 HO4 hOb hul ho5 hg5 hat5 hp5 hk5 kf
   go_wp2
   go_roundw
   case rel => exact ⟨k + 1, by omega, by go_num, O5, B5⟩
   case measure => simp [intOf]; omega
  ·have hki : ¬ (k : Int) < (T : Int) := by omega
   have hkb : decide ((k : Int) < (T : Int)) = false := decide_eq_false hki
   obtain rfl : k = T := by omega
   have BB2 := BW.out.trans (BB.mono BW.out.size)
   have HF : Hid (∃ y, Ending.returned (.slice oa k oc) = .returned y ∧ DRow wr y k N (fun t i => Q t i * R t) ∧ Below w.heap.size w wr) := ⟨_, rfl, O.row hT, BB2⟩
   clear O BB BB2
   go_wp2
   go_ret
   exact HF.out


set_option maxRecDepth 100000 in
set_option maxHeartbeats 8000000 in
theorem pchain_none (v : Value) (w : World) (hlk : Calls Tryz.prog 24 #[v] w fun e w' => e = .returned (.slice none 0 0) ∧ Below w.heap.size w w') :
  Calls Tryz.prog 6 #[v] w fun e w' => e = .returned (.slice none 0 0) ∧ Below w.heap.size w w' := by
 have BB : Below w.heap.size w w := Below.refl _ _
 go_enter Tryz.func6, Tryz.ntmps6
 go_wp2_with fail
 refine (hlk).mono ?_
 rintro e w1 ⟨rfl, b1⟩
 replace BB := BB.trans (b1.mono BB.size)
 clear b1
 go_wp2
 go_loopw [3, 9] (fun vo vi wr => vo = .slice none 0 0 ∧ vi = .int .i64 0 ∧ wr = w1) (fun _ _ _ => 0)
 case atStart => exact ⟨rfl, rfl, rfl⟩
 case round =>
  obtain ⟨rfl, rfl, hwr⟩ := hrel
  subst hwr
  go_wp2
  go_ret
  exact ⟨rfl, BB⟩

end Go.Proofs.YtnbocjbfieklhabGreatDoor

namespace Go.Proofs.YtnbocjbfieklhabGreatDoor
open Go.RowKit
set_option linter.unusedVariables false

/-- What a polynomial's chain is. -/
structure ChF (n : Nat) (q : Nat → Rat) (T : Nat) (N : Nat → Nat) (C : Nat → Nat → Rat) : Prop where
 pos : ∀ t, t < T → 0 < N t
 six : ∀ t, N t ≤ 6
 sz : ∀ t, t < T → ∀ i, i < N t → qsz (C t i) ≤ 8000
 top : ∀ t, t < T → C t (N t - 1) ≠ 0
 n0 : N 0 = trimN q n
 c0 : ∀ i, C 0 i = q i
 one : T = 1 → trimN q n = 1
 n1 : N 1 = trimN (dQ q) (n - 1)
 c1 : 1 < T → ∀ i, C 1 i = dQ q i
 all : ∀ t, t + 1 < T → allS (N t) (C (t + 1)) (N (t + 1) - 1) 40000 (N t - (N (t + 1) - 1)) (C t)
 len : ∀ t, t + 1 < T → trimN (divR (C (t + 1)) (N (t + 1) - 1) (N t - (N (t + 1) - 1)) (C t)) (min (N t) (N (t + 1) - 1)) = N (t + 2)
 zero : N T = 0
 neg : ∀ t, t + 2 < T → ∀ i, C (t + 2) i = divR (C (t + 1)) (N (t + 1) - 1) (N t - (N (t + 1) - 1)) (C t) i * ((-1 : Int) : Rat)
 szr : ∀ t, t + 1 < T → ∀ i, i < N (t + 2) → qsz (divR (C (t + 1)) (N (t + 1) - 1) (N t - (N (t + 1) - 1)) (C t) i) ≤ 8000
theorem back_mul {a b : Rat} (h : b ≠ 0) : a * b⁻¹ * b = a := by
 rw [Rat.mul_assoc, Rat.inv_mul_cancel b h, Rat.mul_one]
theorem chain_facts {n : Nat} {q : Nat → Rat} (hn : n ≤ 6) (hq : ∀ i, i < n → qsz (q i) ≤ 2) {T : Nat} (h0 : 0 < T) (hpos : ∀ t, t < T → 0 < cN n q t) (hz : cN n q T = 0) (hC : IsChainS T (cN n q) (cQ n q) (cR n q) 4000) : ChF n q T (cN n q) (fun t i => cQ n q t i * cR n q t) := by
 have hst := ChSt.all hn hq
 have hR : ∀ t, t < T → cR n q t ≠ 0 := fun t ht => (hst t).za (hpos t ht)
 have hd : ∀ t, t + 1 < T → ∀ i, divR (fun i => cQ n q (t + 1) i * cR n q (t + 1)) (cN n q (t + 1) - 1) (cN n q t - (cN n q (t + 1) - 1)) (fun i => cQ n q t i * cR n q t) i = restQ (cN n q) (cQ n q) t i * cR n q t := fun t ht i =>
  divR_scale (cQ n q (t + 1)) (cN n q (t + 1) - 1) (cR n q (t + 1)) (cR n q t) (hR _ ht) (hC.top _ ht) _ _ i
 have hv : ∀ t, vz (cN n q t) ≤ 1484 ∧ 14 ≤ vz (cN n q t) := fun t => by
  have := vz_le (cN n q t) (by have : cN n q t ≤ 6 := (hst t).six; omega)
  exact ⟨this.1, this.2.1⟩
 refine ⟨hpos, fun t => (hst t).six, fun t ht i hi => qsz_mul _ _ (hC.sz t i ht hi) (hC.szR t ht), fun t ht e => ?_, rfl, fun i => ?_, fun e => ?_, rfl, fun h1 i => ?_, fun t ht => ?_, fun t ht => ?_, hz, fun t ht i => ?_, fun t ht i hi => ?_⟩
 ·rcases Rat.mul_eq_zero.1 e with g | g
  ·exact hC.top t ht g
  ·exact hR t ht g
 ·exact back_mul (trimN_top q n (hpos 0 h0))
 ·subst e
  have e1 : trimN (dQ q) (n - 1) = 0 := hz
  have e2 := dQ_len n q
  have e3 : 0 < trimN q n := hpos 0 h0
  omega
 ·exact back_mul (trimN_top (dQ q) (n - 1) (hpos 1 h1))
 ·have f1 : IForm (cN n q t) (fun i => cQ n q t i * cR n q t) (5484) := (((hst t).fa).scale (hC.szR t (by omega))).le (by have := (hv t).1; unfold cN at this; omega)
  have f2 : IForm (cN n q (t + 1)) (fun i => cQ n q (t + 1) i * cR n q (t + 1)) (5484) := (((hst (t + 1)).fa).scale (hC.szR (t + 1) ht)).le (by have := (hv (t + 1)).1; unfold cN at this; omega)
  have h6 : cN n q t ≤ 6 := (hst t).six
  refine allS_div f1 f2 (hpos _ ht) (fun e => ?_) (by omega) (Nat.le_trans (Nat.add_le_add_left (Nat.mul_le_mul_right (5484 + 1) (show cN n q t - (cN n q (t + 1) - 1) ≤ 6 by omega)) 5484) (by omega))
  rcases Rat.mul_eq_zero.1 e with g | g
  ·exact hC.top _ ht g
  ·exact hR _ ht g
 ·rw [show divR (fun i => cQ n q (t + 1) i * cR n q (t + 1)) (cN n q (t + 1) - 1) (cN n q t - (cN n q (t + 1) - 1)) (fun i => cQ n q t i * cR n q t) = fun i => restQ (cN n q) (cQ n q) t i * cR n q t from funext (hd t ht), trimN_scale _ _ (hR t (by omega))]
  exact hC.len t ht
 ·have ht1 : t + 1 < T := by omega
  show cQ n q (t + 2) i * cR n q (t + 2) = _
  rw [hd t ht1 i, cQ_two, cR_two]
  have hp : 0 < (chs n q t).len := hpos (t + 2) ht
  have hne : restQ (cN n q) (cQ n q) t (cN n q (t + 2) - 1) ≠ 0 := ((chs n q t).len_top hp).1
  generalize restQ (cN n q) (cQ n q) t (cN n q (t + 2) - 1) = x at *
  generalize restQ (cN n q) (cQ n q) t i = y at *
  generalize cR n q t = z at *
  rw [← Rat.mul_assoc, back_mul hne, show ((-1 : Int) : Rat) = -1 from rfl]
  grind
 ·rw [hd t ht i]
  exact qsz_mul _ _ (hC.szr t i ht hi) (hC.szR t (by omega))
theorem CRow.first {w : World} {v : Value} {N : Nat → Nat} {Q : Nat → Nat → Rat} {R : Nat → Rat} (h : CRow w v 1 (fun _ => N 0) (fun _ => Q 0) (fun _ => R 0)) : CRow w v 1 N Q R := by
 obtain ⟨g, cap, e, h1, h2, h3⟩ := h
 refine ⟨g, cap, e, h1, h2, fun i hi => ?_⟩
 obtain rfl : i = 0 := by omega
 exact h3 0 hi
/-- Chain's answer. -/
theorem pchain_all (v : Value) (n : Nat) (q : Nat → Rat) (w : World) (hv : QRow w v n q 2) (ht : Tab w) (hn : n ≤ 6) :
  Calls Tryz.prog 6 #[v] w fun e w' => ∃ y, e = .returned y ∧ ((trimN q n = 0 ∧ y = .slice none 0 0) ∨ ∃ T N C, 0 < T ∧ T ≤ 6 ∧ DRow w' y T N C ∧ ChF n q T N C) ∧ Below w.heap.size w w' := by
 have hq : ∀ i, i < n → qsz (q i) ≤ 2 := fun i hi => hv.sz (by omega) i hi
 obtain ⟨T, hT6, hpos, hz, hC⟩ := chain_is hn hq
 have hvL : QRow w v n q 4000 := hv.le (by omega)
 have hl := dQ_len n q
 rcases Nat.eq_zero_or_pos T with e | h0
 ·subst e
  have e0 : trimN q n = 0 := hz
  refine (pchain_none v w (plinks_none v n q 4000 w hvL ht (by omega) (by omega) (by omega) e0 (show trimN (dQ q) (n - 1) = 0 by omega))).mono ?_
  rintro e w1 ⟨rfl, b1⟩
  exact ⟨_, rfl, .inl ⟨e0, rfl⟩, b1⟩
 ·have hF := chain_facts hn hq h0 hpos hz hC
  have hst := ChSt.all hn hq
  have hlk : Calls Tryz.prog 24 #[v] w fun e w' => ∃ u, e = .returned u ∧ CRow w' u T (cN n q) (cQ n q) (cR n q) ∧ Below w.heap.size w w' := by
   by_cases h1 : T = 1
   ·subst h1
    refine (plinks_one v n q (cN n q 0) (cQ n q 0) (cR n q 0) 4000 w hvL ht (by omega) (by omega) (by omega) rfl (hpos 0 h0) (fun i _ => rfl) (Rat.mul_one _) hz).mono ?_
    rintro e w1 ⟨u, rfl, h, b1⟩
    exact ⟨u, rfl, h.first, b1⟩
   ·have hp1 : 0 < trimN (dQ q) (n - 1) := hpos 1 (by omega)
    refine plinksS_at v n q T (cN n q) (cQ n q) (cR n q) 4000 w hvL ht hC (by omega) (by omega) (by omega) rfl (fun i _ => rfl) (Rat.mul_one _) rfl (fun i _ => rfl) (Rat.mul_one _) (fun i hi => ?_)
    have hi2 : i < trimN (dQ q) (n - 1) := hi
    have := trimN_le (dQ q) (n - 1)
    exact Nat.le_trans (qsz_mul _ _ (hq (i + 1) (by omega)) (qsz_int (L := 2) _ ((nl_two _).2 (by omega)) (by omega))) (by omega)
  refine (pchain_at v T (cN n q) (cQ n q) (cR n q) 4000 w ht hlk h0 (by omega) (fun t ht i hi => hC.sz t i ht hi) hC.szR (fun t ht => hC.small t ht) (fun t ht => ?_) (by omega) (by omega)).mono ?_
  ·rw [trimN_scale (cQ n q t) (cR n q t) ((hst t).za (hpos t ht))]
   exact trimN_full _ _ (fun _ => hC.top t ht)
  ·rintro e w1 ⟨y, rfl, h, b1⟩
   exact ⟨y, rfl, .inr ⟨T, _, _, h0, hT6, h, hF⟩, b1⟩
/-- A cell. -/
structure Cel (w : World) (b o : Nat) (x : Value) : Prop where
 cell : w.cell? ⟨b, o, none⟩ = some x
theorem Cel.below {w w' : World} {b o : Nat} {x : Value} (h : Cel w b o x) (hb : Below w.heap.size w w') : Cel w' b o x := ⟨(hb.cell (World.block_lt_of_cell? w _ h.cell)).trans h.cell⟩
theorem DRow.at {w : World} {g T cap : Nat} {N : Nat → Nat} {C : Nat → Nat → Rat} (h : DRow w (.slice (some ⟨g, 0, none⟩) T cap) T N C) (i : Nat) (hi : i < T) : ∃ a c, Cel w g i (.slice a (N i) c) ∧ FRow w (.slice a (N i) c) (N i) (C i) := by
 obtain ⟨g', cap', el, e, h1, h2, h3, h4⟩ := h
 cases e
 obtain ⟨a, c, e⟩ := (h4 i hi).open
 exact ⟨a, c, ⟨by rw [h3 i hi, e]⟩, e ▸ h4 i hi⟩

end Go.Proofs.YtnbocjbfieklhabGreatDoor

namespace Go.Proofs.YtnbocjbfieklhabGreatDoor
open Go.RowKit
set_option linter.unusedVariables false
set_option linter.unusedSimpArgs false

theorem IForm.one {h : Nat} (hh : 1 ≤ h) : IForm 1 (fun _ => (1 : Rat)) h := ⟨1, fun _ => 1, by decide, Nat.le_trans nlw_one hh, fun i hi => ⟨by show (1 : Rat) * ((1 : Int) : Rat) = ((1 : Int) : Rat); decide +kernel, Nat.le_trans nlw_one hh⟩⟩
theorem IForm.none {q : Nat → Rat} {h : Nat} (hh : 1 ≤ h) : IForm 0 q h := ⟨1, fun _ => 0, by decide, Nat.le_trans nlw_one hh, fun i hi => by omega⟩
def lz : Nat → Nat
 | 0 => 289
 | 1 => 119
 | 2 => 49
 | 3 => 19
 | _ => 9
theorem lz_le : ∀ x, x < 5 → lz x ≤ 289 ∧ 9 ≤ lz x ∧ (0 < x → lz x ≤ 119) := by decide
theorem lz_one : ∀ la, la < 5 → ∀ lb, lb < 5 → 0 < lb → 9 ≤ lz lb ∧ 9 + (la - (lb - 1)) * 10 ≤ lz (lb - 1) ∧ (la - (lb - 1)) * (9 + (la - (lb - 1)) * 10 + 9) + 1 ≤ 820 := by decide
theorem lz_two : ∀ la, la < 5 → ∀ lb, lb < la → 0 < lb → lz (la - 1) ≤ lz lb ∧ lz la + (la - (lb - 1)) * (lz (la - 1) + 1) ≤ lz (lb - 1) ∧ (la - (lb - 1)) * (lz la + (la - (lb - 1)) * (lz (la - 1) + 1) + lz (la - 1)) + 1 ≤ 820 := by decide
/-- How the lengths stand between two rounds. -/
def LSt (t lr ls hr hs lx lu ly lv : Nat) : Prop := (t = 0 ∧ lr ≤ 4 ∧ ls ≤ 4 ∧ hr = 9 ∧ hs = 9 ∧ lx ≤ 1 ∧ lu ≤ 1 ∧ ly ≤ 1 ∧ lv ≤ 1) ∨ (0 < t ∧ t + lr ≤ 5 ∧ ls < lr ∧ hr = lz lr ∧ hs = lz (lr - 1) ∧ lx ≤ 5 - lr ∧ lu ≤ 5 - lr ∧ ly ≤ 5 - lr ∧ lv ≤ 5 - lr)
theorem LSt.all {t lr ls hr hs lx lu ly lv : Nat} (h : LSt t lr ls hr hs lx lu ly lv) : t ≤ 4 ∧ lr ≤ 4 ∧ ls ≤ 4 ∧ 9 ≤ hr ∧ 9 ≤ hs ∧ hs ≤ 289 ∧ hr ≤ 289 ∧ lx ≤ 5 ∧ lu ≤ 5 ∧ ly ≤ 5 ∧ lv ≤ 5 := by
 rcases h with ⟨rfl, h1, h2, rfl, rfl, h3⟩ | ⟨h0, h1, h2, rfl, rfl, h3⟩
 ·omega
 ·have a := lz_le lr (by omega)
  have b := lz_le (lr - 1) (by omega)
  omega
theorem LSt.next {t lr ls hr hs lx lu ly lv : Nat} (h : LSt t lr ls hr hs lx lu ly lv) (h0 : 0 < ls) : t ≤ 3 ∧ hs ≤ lz ls ∧ hr + (lr - (ls - 1)) * (hs + 1) ≤ lz (ls - 1) ∧ (lr - (ls - 1)) * (hr + (lr - (ls - 1)) * (hs + 1) + hs) + 1 ≤ 820 ∧ hs ≤ 119 ∧
  ∀ lt lx' lv', lt < ls → (lx' ≤ max lx (lr - (ls - 1) + lu - 1) ∨ lx' ≤ lx) → (lv' ≤ max ly (lr - (ls - 1) + lv - 1) ∨ lv' ≤ ly) → LSt (t + 1) ls lt (lz ls) (lz (ls - 1)) lu lx' lv lv' := by
 rcases h with ⟨rfl, h1, h2, rfl, rfl, h3⟩ | ⟨h1, h2, h3, rfl, rfl, h4⟩
 ·have a := lz_one lr (by omega) ls (by omega) h0
  exact ⟨by omega, a.1, a.2.1, a.2.2, by omega, fun lt lx' lv' b c d => Or.inr ⟨by omega, by omega, b, rfl, rfl, by omega, by omega, by omega, by omega⟩⟩
 ·have a := lz_two lr (by omega) ls h3 h0
  have b := lz_le (lr - 1) (by omega)
  exact ⟨by omega, a.1, a.2.1, a.2.2, b.2.2 (by omega), fun lt lx' lv' b c d => Or.inr ⟨by omega, by omega, b, rfl, rfl, by omega, by omega, by omega, by omega⟩⟩


set_option maxRecDepth 20000 in
set_option maxHeartbeats 4000000 in
theorem pdivmod_S (u v : Value) (n m la lb : Nat) (q1 q2 : Nat → Rat) (L S : Nat) (w : World) (hu : QRow w u n q1 L) (hv : QRow w v m q2 L) (ht : Tab w) (hn : n ≤ 1000) (hm : m ≤ 1000) (hL : 1 ≤ L) (hLM : L ≤ 40000) (hla : trimN q1 n = la) (hlb : trimN q2 m = lb) (hla2 : la ≤ 1000) (hlb2 : lb ≤ 1000) (sb : ∀ i, i < lb → qsz (q2 i) ≤ L) (h0 : 0 < lb) (htop : q2 (lb - 1) ≠ 0) (hLS : L ≤ S) (hS2 : S + L + L + 1 ≤ 90000) (hall : allS la q2 (lb - 1) S (la - (lb - 1)) q1) :
  Calls Tryz.prog 12 #[u, v] w fun e w' => ∃ x y, e = .returned (.tuple #[x, y, .int .i64 0]) ∧ FRow w' x (trimN (divQ q2 (lb - 1) (la - (lb - 1)) q1) (la - (lb - 1))) (divQ q2 (lb - 1) (la - (lb - 1)) q1) ∧ FRow w' y (trimN (divR q2 (lb - 1) (la - (lb - 1)) q1) (min la (lb - 1))) (divR q2 (lb - 1) (la - (lb - 1)) q1) ∧ Below w.heap.size w w' := by
 have BB : Below w.heap.size w w := Below.refl _ _
 go_enter Tryz.func12, Tryz.ntmps12
 go_wp2_with fail
 refine (pclean_at _ n q1 L _ hu ht (by omega) hL (by omega)).mono ?_
 rintro e w1 ⟨x1, rfl, FA, b1⟩
 replace hu := hu.below b1
 replace hv := hv.below b1
 replace ht := ht.below b1
 replace BB := BB.trans (b1.mono BB.size)
 clear b1
 rw [hla] at FA
 go_wp2_with fail
 refine (pclean_at _ m q2 L _ hv ht (by omega) hL (by omega)).mono ?_
 rintro e w2 ⟨x2, rfl, FB, b2⟩
 replace hu := hu.below b2
 replace hv := hv.below b2
 replace ht := ht.below b2
 replace FA := FA.below b2
 replace BB := BB.trans (b2.mono BB.size)
 clear b2
 rw [hlb] at FB
 obtain ⟨aa, ca, rfl⟩ := FA.1.open
 obtain ⟨ab, cb, rfl⟩ := FB.1.open
 have e1 : ((lb : Int) == 0) = false := by simp; omega
 have e2 : ¬ (lb : Int) = 0 := by omega
 go_wp2_with fail
 refine (pdivide_S _ _ la lb q1 q2 L S _ FA.1 FB.1 sb ht (by omega) (by omega) h0 htop hL hLS hS2 hall).mono ?_
 rintro e w3 ⟨x, y, rfl, FQ, FR, b3⟩
 replace hu := hu.below b3
 replace hv := hv.below b3
 replace ht := ht.below b3
 replace FA := FA.below b3
 replace FB := FB.below b3
 replace BB := BB.trans (b3.mono BB.size)
 clear b3
 go_wp2
 go_ret3
 exact ⟨x, y, rfl, FQ.1, FR.1, BB⟩

end Go.Proofs.YtnbocjbfieklhabGreatDoor
