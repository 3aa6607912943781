/-
  Texts of mine, joined: what lies beneath the statement.
-/
import Derived.Test.YtgddiimnpliolaaGreatDoorJb82b0d9242
import Derived.Test.YtgddiimnpliolaaGreatDoorJ1388513226
namespace Go.Proofs.YtgddiimnpliolaaGreatDoor
open Go.RowKit
set_option linter.unusedVariables false
set_option linter.unusedSimpArgs false
def prodq (q : Nat → Rat) : Nat → Rat
 | 0 => 1
 | n + 1 => prodq q n * q n
theorem prodq_cut (q : Nat → Rat) (m : Nat) : ∀ n,prodq q (m + n) = prodq q m * prodq (fun i => q (m + i)) n
 | 0 => by show prodq q m = prodq q m * 1; rw [Rat.mul_one]
 | n + 1 => by
  show prodq q (m + n) * q (m + n) = prodq q m * (prodq (fun i => q (m + i)) n * q (m + n))
  rw [prodq_cut q m n,Rat.mul_assoc]
theorem qsz_prodq (q : Nat → Rat) (L : Nat) : ∀ n,(∀ i,i < n → qsz (q i) ≤ L) → qsz (prodq q n) ≤ n * (L + 1) + 1
 | 0,_ => by
  have : qsz (1 : Rat) ≤ 1 := by decide +kernel
  show qsz (1 : Rat) ≤ _; omega
 | n + 1,h => by
  have h1 := qsz_prodq q L n (fun i hi => h i (by omega))
  have h2 := qsz_mul _ _ h1 (h n (by omega))
  show qsz (prodq q n * q n) ≤ _
  rw [Nat.succ_mul]
  omega
set_option maxRecDepth 20000 in
set_option maxHeartbeats 4000000 in
theorem product_at (L M : Nat) (hL : 1 ≤ L) (hLM : L ≤ M) (hMM : M ≤ 100000) : ∀ (n : Nat) (v : Value) (q : Nat → Rat) (w : World),QRow w v n q L → Tab w → n * (L + 1) + 1 ≤ M →
  Calls Tryz.prog 76 #[v] w fun e w' => ∃ r,e = .returned r ∧ RepQ w' r (prodq q n) ∧ Below w.heap.size w w' := by
 intro n
 induction n using Nat.strongRecOn with
 | _ n ih =>
 intro v q w hv ht hM
 by_cases h0 : n = 0
 ·subst h0
  obtain ⟨el,⟨ao,c,rfl,_⟩,_⟩ := hv
  clear ih
  have BB : Below w.heap.size w w := Below.refl _ _
  obtain ⟨Wb0,hW0,hS0,hL0,VR⟩ := V3.lay w 40 (.bool false) (.slice none 0 0) (.slice none 0 0)
  replace ht := ht.below hL0
  replace BB := BB.trans (hL0.mono BB.size)
  clear hL0
  go_enter Tryz.func76,Tryz.ntmps76
  go_wp2_with fail
  rw [← hW0]
  clear hW0 hS0
  refine (qone_at _).mono ?_
  rintro e w1 ⟨r,rfl,hr,b1⟩
  replace ht := ht.below b1
  replace VR := VR.below b1
  replace BB := BB.trans (b1.mono BB.size)
  clear b1
  obtain ⟨p3,a3,n3,c3,bo3,m3,d3,rfl⟩ := hr.open
  have hKp := VR.keepJ (.bool p3) (.slice a3 n3 c3) (.slice bo3 m3 d3)
  have ht_n := ht.keep hKp
  have hr_n := hr.keep hKp
  have BB_n := below_store3 (R := w.heap.size) BB (by omega) (.bool p3) (.slice a3 n3 c3) (.slice bo3 m3 d3)
  clear hKp
  obtain ⟨q1,q2,q3,q4,q5,q6⟩ := id VR
  go_wp2
  (try simp only [Exit.inBlock,Exit.then])
  refine bodyPost_ret (v := .agg #[.bool p3,.slice a3 n3 c3,.slice bo3 m3 d3]) (by simp [results,go_sem,q1,q2,q3]) rfl ?_
  exact ⟨_,rfl,hr_n,BB_n⟩
 by_cases h1 : n = 1
 ·subst h1
  clear ih h0
  have BB : Below w.heap.size w w := Below.refl _ _
  obtain ⟨Wb0,hW0,hS0,hL0,VR⟩ := V3.lay w 40 (.bool false) (.slice none 0 0) (.slice none 0 0)
  replace ht := ht.below hL0
  replace hv := hv.below hL0
  replace BB := BB.trans (hL0.mono BB.size)
  clear hL0
  obtain ⟨el,⟨ao,c,rfl,hc,_,h4⟩,hel⟩ := hv
  obtain ⟨bb,off,rfl,hcell⟩ := h4 (by omega)
  have e0 := hel 0 (by omega)
  have c0 := hcell 0 (by omega) 0 (by omega)
  have c1 := hcell 0 (by omega) 1 (by omega)
  have c2 := hcell 0 (by omega) 2 (by omega)
  simp only [Nat.zero_mul,Nat.add_zero] at c0 c1 c2
  obtain ⟨p,a1,m1,d1,b1,k1,g1,he⟩ := e0.open
  have he' := he
  simp only [Value.agg.injEq,Array.mk.injEq,List.cons.injEq,and_true] at he'
  rw [he'.1] at c0
  rw [he'.2.1] at c1
  rw [he'.2.2] at c2
  rw [he] at e0
  clear hcell hel he he' h4
  rw [hW0] at c0 c1 c2
  have hz : Hid (prodq q 1 = q 0) := by show (1 : Rat) * q 0 = q 0; rw [Rat.one_mul]
  go_enter Tryz.func76,Tryz.ntmps76
  go_wp2_with fail
  rw [← hW0]
  clear hW0 hS0
  clear c0 c1 c2
  refine (qclean_at _ (q 0) L _ e0 hL (by omega) ht).mono ?_
  rintro e w1 ⟨r,rfl,hr,b1⟩
  replace ht := ht.below b1
  replace e0 := e0.below b1
  replace VR := VR.below b1
  replace BB := BB.trans (b1.mono BB.size)
  clear b1
  rw [← hz.out] at hr
  obtain ⟨p3,a3,n3,c3,bo3,m3,d3,rfl⟩ := hr.open
  have hKp := VR.keepJ (.bool p3) (.slice a3 n3 c3) (.slice bo3 m3 d3)
  have ht_n := ht.keep hKp
  have e0_n := e0.keep hKp
  have hr_n := hr.keep hKp
  have BB_n := below_store3 (R := w.heap.size) BB (by omega) (.bool p3) (.slice a3 n3 c3) (.slice bo3 m3 d3)
  clear hKp
  obtain ⟨q1,q2,q3,q4,q5,q6⟩ := id VR
  go_wp2
  (try simp only [Exit.inBlock,Exit.then])
  refine bodyPost_ret (v := .agg #[.bool p3,.slice a3 n3 c3,.slice bo3 m3 d3]) (by simp [results,go_sem,q1,q2,q3]) rfl ?_
  exact ⟨_,rfl,hr_n,BB_n⟩
 ·have hm0 : ∀ k,k ≤ n → k * (L + 1) + 1 ≤ M := fun k hk => Nat.le_trans (Nat.succ_le_succ (Nat.mul_le_mul_right _ hk)) hM
  have H1 : Hid (∀ (v : Value) (q : Nat → Rat) (w : World),QRow w v (n / 2) q L → Tab w → Calls Tryz.prog 76 #[v] w fun e w' => ∃ r,e = .returned r ∧ RepQ w' r (prodq q (n / 2)) ∧ Below w.heap.size w w') := fun v q w h t => ih (n / 2) (by omega) v q w h t (hm0 _ (by omega))
  have H2 : Hid (∀ (v : Value) (q : Nat → Rat) (w : World),QRow w v (n - n / 2) q L → Tab w → Calls Tryz.prog 76 #[v] w fun e w' => ∃ r,e = .returned r ∧ RepQ w' r (prodq q (n - n / 2)) ∧ Below w.heap.size w w') := fun v q w h t => ih (n - n / 2) (by omega) v q w h t (hm0 _ (by omega))
  have l1 := Nat.le_trans (qsz_prodq q L (n / 2) (fun i hi => hv.sz hL i (by omega))) (hm0 _ (by omega))
  have l2 := Nat.le_trans (qsz_prodq (fun i => q (n / 2 + i)) L (n - n / 2) (fun i hi => hv.sz hL (n / 2 + i) (by omega))) (hm0 _ (by omega))
  have HZ : Hid (prodq q (n / 2) * prodq (fun i => q (n / 2 + i)) (n - n / 2) = prodq q n) := by
   show _ = _
   rw [← prodq_cut,show n / 2 + (n - n / 2) = n by omega]
  obtain ⟨b,off,c,rfl,hc,hM2,r1,r2⟩ := hv.cut (n / 2) (by omega) (by omega)
  obtain ⟨m,hm⟩ : ∃ m,m = n / 2 := ⟨_,rfl⟩
  have d1 : (n : Int) / 2 = (m : Int) := by omega
  rw [← hm] at H1 H2 l1 l2 HZ r1 r2
  have d4 : (0 : Int) ≤ (m : Int) := by omega
  have d5 : (m : Int) ≤ (c : Int) := by omega
  have d6 : (m : Int) ≤ (n : Int) := by omega
  have d7 : (n : Int) ≤ (c : Int) := by omega
  have d8 : ¬ c = m := by omega
  have d9 : m ≤ n := by omega
  have d10 : ¬ n = 0 := h0
  have d11 : ((n : Int) == 0) = false := by simp; omega
  have d12 : ((n : Int) == 1) = false := by simp; omega
  clear ih hv hm h0 h1 hm0
  have BB : Below w.heap.size w w := Below.refl _ _
  obtain ⟨Wb0,hW0,hS0,hL0,VR⟩ := V3.lay w 40 (.bool false) (.slice none 0 0) (.slice none 0 0)
  replace ht := ht.below hL0
  replace r1 := r1.below hL0
  replace r2 := r2.below hL0
  replace BB := BB.trans (hL0.mono BB.size)
  clear hL0
  go_enter Tryz.func76,Tryz.ntmps76
  go_wp2
  rw [← hW0]
  clear hW0 hS0
  have hDr : Below Wb0.heap.size Wb0 Wb0.drew := (Below.refl _ _).drew
  replace ht := ht.below hDr
  replace r1 := r1.below hDr
  replace r2 := r2.below hDr
  replace VR := VR.below hDr
  replace BB := BB.trans (hDr.mono BB.size)
  clear hDr
  refine wp_region_held_drew (S := (fun w' => True)) (by kernel_rfl) ?_ (fun hHeld => ?_)
  ·trivial
  generalize Wb0.drew = W1 at *
  refine xT 0 (v := ?_) (hy := Or.inl ⟨by rfl,?_⟩) (h := ?_)
  rotate_left
  ·(intro w hSw; (try dsimp only at hSw); go_simp; (try with_reducible rfl))
  (try simp only [Act.put,xL4,xL5,xL6])
  refine xT 1 (v := ?_) (hy := Or.inl ⟨by rfl,?_⟩) (h := ?_)
  rotate_left
  ·(intro w hSw; (try dsimp only at hSw); go_simp; (try with_reducible rfl))
  (try simp only [Act.put,xL4,xL5,xL6])
  refine xT 2 (v := ?_) (hy := Or.inl ⟨by rfl,?_⟩) (h := ?_)
  rotate_left
  ·(intro w hSw; (try dsimp only at hSw); go_simp; (try with_reducible rfl))
  (try simp only [Act.put,xL4,xL5,xL6])
  refine xT 4 (v := ?_) (hy := Or.inl ⟨by rfl,?_⟩) (h := ?_)
  rotate_left
  ·(intro w hSw; (try dsimp only at hSw); go_simp; (try with_reducible rfl))
  (try simp only [Act.put,xL4,xL5,xL6])
  refine xT 5 (v := ?_) (hy := Or.inl ⟨by rfl,?_⟩) (h := ?_)
  rotate_left
  ·(intro w hSw; (try dsimp only at hSw); go_simp; (try with_reducible rfl))
  (try simp only [Act.put,xL4,xL5,xL6])
  refine xT 6 (v := ?_) (hy := Or.inl ⟨by rfl,?_⟩) (h := ?_)
  rotate_left
  ·(intro w hSw; (try dsimp only at hSw); go_simp; (try with_reducible rfl))
  (try simp only [Act.put,xL4,xL5,xL6])
  refine xR [3] (h := ?_)
  refine xN (h := fun K hK => ?_)
  go_simp
  refine (H1.out _ _ _ r1 ht).mono ?_
  rintro e w1 ⟨v1,rfl,hr1,b1⟩
  go_wp2_with fail
  replace ht := ht.below b1
  replace r1 := r1.below b1
  replace r2 := r2.below b1
  replace VR := VR.below b1
  replace BB := BB.trans (b1.mono BB.size)
  clear b1
  refine hK.out _ _ ?_ (fun hH1 => ?_)
  ·trivial
  clear hK K hHeld
  (try simp only [Act.put,xL4,xL5,xL6])
  refine xR [7] (h := ?_)
  refine xN (h := fun K hK => ?_)
  go_simp
  refine (H2.out _ _ _ r2 ht).mono ?_
  rintro e w2 ⟨v2,rfl,hr2,b2⟩
  go_wp2_with fail
  replace ht := ht.below b2
  replace r1 := r1.below b2
  replace r2 := r2.below b2
  replace hr1 := hr1.below b2
  replace VR := VR.below b2
  replace BB := BB.trans (b2.mono BB.size)
  clear b2
  refine hK.out _ _ ?_ (fun hH2 => ?_)
  ·trivial
  clear hK K hH1
  (try simp only [Act.put,xL4,xL5,xL6])
  refine xR [8] (h := ?_)
  refine xN (h := fun K hK => ?_)
  clear r1 r2
  go_simp
  refine (qmul_at _ _ _ _ M _ (hr1.at _ l1) (hr2.at _ l2) (by omega) (by omega) ht).mono ?_
  rintro e w3 ⟨r3,rfl,hr,b3⟩
  rw [HZ.out] at hr
  obtain ⟨p3,a3,n3,c3,bo3,m3,d3,rfl⟩ := hr.open
  go_wp2_with fail
  replace ht := ht.below b3
  replace hr1 := hr1.below b3
  replace hr2 := hr2.below b3
  replace VR := VR.below b3
  replace BB := BB.trans (b3.mono BB.size)
  clear b3
  refine hK.out _ _ ?_ (fun hH3 => ?_)
  ·trivial
  clear hK K hH2
  (try simp only [Act.put,xL4,xL5,xL6])
  refine xR [9] (h := ?_)
  refine xN (h := fun K hK => ?_)
  have hKp := VR.keepJ (.bool p3) (.slice a3 n3 c3) (.slice bo3 m3 d3)
  have VR_n := VR.same (.bool p3) (.slice a3 n3 c3) (.slice bo3 m3 d3)
  have ht_n := ht.keep hKp
  have hr1_n := hr1.keep hKp
  have hr2_n := hr2.keep hKp
  have hr_n := hr.keep hKp
  have BB_n := below_store3 (R := w.heap.size) BB (by omega) (.bool p3) (.slice a3 n3 c3) (.slice bo3 m3 d3)
  clear hKp
  obtain ⟨VR_0,VR_1,VR_2,VR_3,VR_4,VR_5⟩ := id VR
  go_simp
  clear VR_0 VR_1 VR_2 VR_3 VR_4 VR_5
  clear BB ht hr1 hr2 hr VR
  generalize ((w3.setCell ⟨w.heap.size,0,none⟩ (.bool p3)).setCell ⟨w.heap.size,1,none⟩ (.slice a3 n3 c3)).setCell ⟨w.heap.size,2,none⟩ (.slice bo3 m3 d3) = W2 at *
  have BB := BB_n
  have ht := ht_n
  have hr1 := hr1_n
  have hr2 := hr2_n
  have hr := hr_n
  have VR := VR_n
  clear BB_n ht_n hr1_n hr2_n hr_n VR_n
  refine hK.out _ _ ?_ (fun hH4 => ?_)
  ·trivial
  clear hK K hH3
  (try simp only [Act.put,xL4,xL5,xL6])
  refine wpAnyH_done (by kernel_rfl) ?_ _
  clear hH4
  obtain ⟨q1,q2,q3,q4,q5,q6⟩ := id VR
  go_wp2
  (try simp only [Exit.inBlock,Exit.then])
  refine bodyPost_ret (v := .agg #[.bool p3,.slice a3 n3 c3,.slice bo3 m3 d3]) (by simp [results,go_sem,q1,q2,q3]) rfl ?_
  exact ⟨_,rfl,hr,BB⟩
end Go.Proofs.YtgddiimnpliolaaGreatDoor
