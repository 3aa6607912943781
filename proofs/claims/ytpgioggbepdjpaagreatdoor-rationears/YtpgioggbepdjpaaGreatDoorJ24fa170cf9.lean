/-
  Texts of mine, joined: what lies beneath the statement.
-/
import Derived.Test.YtpgioggbepdjpaaGreatDoorJc6147c59cf
import Derived.Test.YtpgioggbepdjpaaGreatDoorJ88f5a7ff8b
namespace Go.Proofs.YtpgioggbepdjpaaGreatDoor
open Go.RowKit
set_option linter.unusedVariables false
set_option linter.unusedSimpArgs false
theorem qsz_floor (q : Rat) {L : Nat} (h : qsz q ≤ L) : nl W32 q.floor.natAbs ≤ L + 1 := by
 rw [← Rat.mkRat_self q,floor_mkRat _ _ (Nat.pos_of_ne_zero q.den_nz)]
 exact fdiv_nl _ _ _ (Nat.le_trans (qsz_num q) h)
def nearQ (q : Rat) (A C D E : Nat) : Rat := if ((D : Int) : Rat) / ((E : Int) : Rat) - (q - (q.floor : Rat)) < q - (q.floor : Rat) - ((A : Int) : Rat) / ((C : Int) : Rat) ∨ (q - (q.floor : Rat) - ((A : Int) : Rat) / ((C : Int) : Rat) = ((D : Int) : Rat) / ((E : Int) : Rat) - (q - (q.floor : Rat)) ∧ E < C) then (q.floor : Rat) + ((D : Int) : Rat) / ((E : Int) : Rat) else (q.floor : Rat) + ((A : Int) : Rat) / ((C : Int) : Rat)
theorem cmpQ_two (a b : Rat) : (cmpQ a b > 0 ↔ b < a) ∧ (cmpQ a b = 0 ↔ a = b) := by
 have h0 := cmpQ_zero a b
 have h1 := cmpQ_pos a b
 refine ⟨?_,?_⟩
 ·rw [gt_iff_lt,← decide_eq_true_iff (p := 0 < cmpQ a b),h1,decide_eq_true_iff]
 ·rw [← beq_iff_eq,h0,decide_eq_true_iff]
set_option maxRecDepth 20000 in
set_option maxHeartbeats 8000000 in
theorem near_any (v : Value) (q : Rat) (L most : Nat) (w : World) (hv : RatAt w v q L) (ht : Tab w) (hL : 2 ≤ L) (hM : L ≤ 30000) (hm0 : 1 ≤ most) (hm : most ≤ 4096) (A C D E : Nat) (hA : A ≤ 4096) (hC : C ≤ 4096) (hD : D ≤ 4096) (hE : E ≤ 4096) (hab : aboutN (q - (q.floor : Rat)) most (most + 1) 0 1 1 1 = (A,C,D,E)) :
  Calls Tryz.prog 8 #[v,.int .i64 (most : Int)] w fun e w' => ∃ r,e = .returned (.tuple #[r,.int .i64 0]) ∧ RepQ w' r (nearQ q A C D E) ∧ Below w.heap.size w w' := by
 obtain ⟨p,ao,n,c,bo,m,d,rfl⟩ := hv.open
 have hqs := hv.qsz (by omega)
 have hfl := qsz_floor q hqs
 have hsf : qsz (q.floor : Rat) ≤ L + 1 := qsz_int _ hfl (by omega)
 have hsr : qsz (q - (q.floor : Rat)) ≤ L + (L + 1) + 1 := qsz_sub _ _ hqs hsf
 have hsa := qsz_frac (A : Int) (C : Int) (by omega) (by omega)
 have hsd := qsz_frac (D : Int) (E : Int) (by omega) (by omega)
 have j1 : ¬ (most : Int) < 1 := by omega
 have j2 : ¬ (most : Int) > 4096 := by omega
 have HN : Hid (nearQ q A C D E = if ((D : Int) : Rat) / ((E : Int) : Rat) - (q - (q.floor : Rat)) < q - (q.floor : Rat) - ((A : Int) : Rat) / ((C : Int) : Rat) ∨ (q - (q.floor : Rat) - ((A : Int) : Rat) / ((C : Int) : Rat) = ((D : Int) : Rat) / ((E : Int) : Rat) - (q - (q.floor : Rat)) ∧ E < C) then (q.floor : Rat) + ((D : Int) : Rat) / ((E : Int) : Rat) else (q.floor : Rat) + ((A : Int) : Rat) / ((C : Int) : Rat)) := rfl
 have BB : Below w.heap.size w w := Below.refl _ _
 obtain ⟨Wb0,hW0,hS0,hL0,VA⟩ := V3.lay w 27 (.bool p) (.slice ao n c) (.slice bo m d)
 replace hv := hv.below hL0
 replace ht := ht.below hL0
 replace BB := BB.trans (hL0.mono BB.size)
 clear hL0
 obtain ⟨Wb1,hW1,hS1,hL1,VR⟩ := V3.lay Wb0 27 (.bool false) (.slice none 0 0) (.slice none 0 0)
 rw [hS0] at VR hS1
 replace hv := hv.below hL1
 replace ht := ht.below hL1
 replace VA := VA.below hL1
 replace BB := BB.trans (hL1.mono BB.size)
 clear hL1
 go_enter Tryz.func8,Tryz.ntmps8
 go_wp2_with fail
 rw [← hW0]
 rw [← hW1]
 clear hW0 hW1 hS0 hS1
 refine (qfloor_at _ _ _ _ hv (by omega) (by omega)).mono ?_
 rintro e w1 ⟨fv,rfl,hf,b1⟩
 replace hv := hv.below b1
 replace ht := ht.below b1
 replace VA := VA.below b1
 replace VR := VR.below b1
 replace BB := BB.trans (b1.mono BB.size)
 clear b1
 go_wp2_with fail
 refine (qint_at _ _ _ _ (hf.at _ hfl)).mono ?_
 rintro e w2 ⟨gv,rfl,hg,b2⟩
 replace hv := hv.below b2
 replace ht := ht.below b2
 replace hf := hf.below b2
 replace VA := VA.below b2
 replace VR := VR.below b2
 replace BB := BB.trans (b2.mono BB.size)
 clear b2
 obtain ⟨pg,ag,ng,cg,bg,mg,dg_,rfl⟩ := hg.open
 clear hf
 have hZ1 : w.heap.size ≤ w2.heap.size := BB.size
 have hN1VA : w.heap.size ≠ w2.heap.size := Nat.ne_of_lt VA.lt
 have hN1VR : w.heap.size + 1 ≠ w2.heap.size := Nat.ne_of_lt VR.lt
 obtain ⟨W1,hW1,hS1,hL1,VF⟩ := V3.lay w2 27 (.bool pg) (.slice ag ng cg) (.slice bg mg dg_)
 replace hv := hv.below hL1
 replace ht := ht.below hL1
 replace hg := hg.below hL1
 replace VA := VA.below hL1
 replace VR := VR.below hL1
 replace BB := BB.trans (hL1.mono BB.size)
 clear hL1
 obtain ⟨VA_0,VA_1,VA_2,VA_3,VA_4,VA_5⟩ := id VA
 rw [hW1] at VA_0 VA_1 VA_2 VA_3 VA_4 VA_5
 go_wp2_with fail
 clear VA_0 VA_1 VA_2 VA_3 VA_4 VA_5
 rw [← hW1]
 generalize w2.heap.size = R1 at *
 clear hW1 hS1
 have hgf := hg.at (L + 1) hsf
 refine (qsub_at _ _ q (q.floor : Rat) (L + 1) _ (hv.le (by omega)) hgf (by omega) (by omega) ht).mono ?_
 rintro e w3 ⟨rv,rfl,hr0,b3⟩
 replace hv := hv.below b3
 replace ht := ht.below b3
 replace hg := hg.below b3
 replace hgf := hgf.below b3
 replace VA := VA.below b3
 replace VR := VR.below b3
 replace VF := VF.below b3
 replace BB := BB.trans (b3.mono BB.size)
 clear b3
 obtain ⟨pe,ae,ne,ce,be,me,de,rfl⟩ := hr0.open
 generalize hF : (q.floor : Rat) = F at *
 generalize hSS : q - F = S at *
 clear hg hv
 have hZ2 : w.heap.size ≤ w3.heap.size := BB.size
 have hN2VA : w.heap.size ≠ w3.heap.size := Nat.ne_of_lt VA.lt
 have hN2VR : w.heap.size + 1 ≠ w3.heap.size := Nat.ne_of_lt VR.lt
 have hN2VF : R1 ≠ w3.heap.size := Nat.ne_of_lt VF.lt
 obtain ⟨W2,hW2,hS2,hL2,VS⟩ := V3.lay w3 27 (.bool pe) (.slice ae ne ce) (.slice be me de)
 replace ht := ht.below hL2
 replace hgf := hgf.below hL2
 replace hr0 := hr0.below hL2
 replace VA := VA.below hL2
 replace VR := VR.below hL2
 replace VF := VF.below hL2
 replace BB := BB.trans (hL2.mono BB.size)
 clear hL2
 go_wp2_with fail
 rw [← hW2]
 generalize w3.heap.size = R2 at *
 clear hW2 hS2
 have hS := hr0.at (L + (L + 1) + 1) hsr
 clear hr0
 refine (about_at _ S (L + (L + 1) + 1) most _ hS ht (by omega) (by omega) (by omega) A C D E hab).mono ?_
 rintro e w4 ⟨rfl,b4⟩
 replace ht := ht.below b4
 replace hgf := hgf.below b4
 replace hS := hS.below b4
 replace VA := VA.below b4
 replace VR := VR.below b4
 replace VF := VF.below b4
 replace VS := VS.below b4
 replace BB := BB.trans (b4.mono BB.size)
 clear b4
 have hZ3 : w.heap.size ≤ w4.heap.size := BB.size
 have hN3VA : w.heap.size < w4.heap.size := VA.lt
 have hN3VR : w.heap.size + 1 < w4.heap.size := VR.lt
 have hN3VF : R1 < w4.heap.size := VF.lt
 have hN3VS : R2 < w4.heap.size := VS.lt
 obtain ⟨W4,hW4,hS4,hL4,VL⟩ := V2.lay w4 72 (.int .i64 (A : Int)) (.int .i64 (C : Int))
 replace ht := ht.below hL4
 replace hgf := hgf.below hL4
 replace hS := hS.below hL4
 replace VA := VA.below hL4
 replace VR := VR.below hL4
 replace VF := VF.below hL4
 replace VS := VS.below hL4
 replace BB := BB.trans (hL4.mono BB.size)
 clear hL4
 obtain ⟨W5,hW5,hS5,hL5,VH⟩ := V2.lay W4 72 (.int .i64 (D : Int)) (.int .i64 (E : Int))
 replace ht := ht.below hL5
 replace hgf := hgf.below hL5
 replace hS := hS.below hL5
 replace VA := VA.below hL5
 replace VR := VR.below hL5
 replace VF := VF.below hL5
 replace VS := VS.below hL5
 replace VL := VL.below hL5
 replace BB := BB.trans (hL5.mono BB.size)
 clear hL5
 obtain ⟨W6,hW6,hS6,hL6,VM⟩ := V2.lay W5 72 (.int .i64 (A : Int)) (.int .i64 (C : Int))
 replace ht := ht.below hL6
 replace hgf := hgf.below hL6
 replace hS := hS.below hL6
 replace VA := VA.below hL6
 replace VR := VR.below hL6
 replace VF := VF.below hL6
 replace VS := VS.below hL6
 replace VL := VL.below hL6
 replace VH := VH.below hL6
 replace BB := BB.trans (hL6.mono BB.size)
 clear hL6
 rw [hS4] at VH
 rw [hS5,hS4] at VM
 go_wp2
 rw [← hW4]
 rw [← hW5]
 rw [← hW6]
 generalize w4.heap.size = R3 at *
 clear hW4 hS4 hW5 hS5 hW6 hS6
 clear VA
 generalize hqa : ((A : Int) : Rat) / ((C : Int) : Rat) = qa at *
 generalize hqd : ((D : Int) : Rat) / ((E : Int) : Rat) = qd at *
 have h1s : qsz (S - qa) ≤ L + (L + 1) + 1 + 2 + 1 := by have := qsz_sub _ _ hsr hsa; omega
 have h2s : qsz (qd - S) ≤ L + (L + 1) + 1 + 2 + 1 := by have := qsz_sub _ _ hsd hsr; omega
 go_cut [11,12] from 34 (fun s11 s12 wc => ∃ (RD RU : Nat) (p1 : Bool) (a1 : Option Addr) (n1 c1 : Nat) (b1 : Option Addr) (m1 d1 : Nat) (p2 : Bool) (a2 : Option Addr) (n2 c2 : Nat) (b2 : Option Addr) (m2 d2 : Nat),s11 = .pointer (some ⟨RD,0,none⟩) ∧ s12 = .pointer (some ⟨RU,0,none⟩) ∧ V3 wc RD (.bool p1) (.slice a1 n1 c1) (.slice b1 m1 d1) ∧ V3 wc RU (.bool p2) (.slice a2 n2 c2) (.slice b2 m2 d2) ∧ RepQ wc (.agg #[.bool p1,.slice a1 n1 c1,.slice b1 m1 d1]) (S - qa) ∧ RepQ wc (.agg #[.bool p2,.slice a2 n2 c2,.slice b2 m2 d2]) (qd - S) ∧ Below W6.heap.size W6 wc)
 case first =>
  clear hgf VR VF VM BB hab hqs hfl hsf
  have BB : Below W6.heap.size W6 W6 := Below.refl _ _
  have hDr : Below W6.heap.size W6 W6.drew := (Below.refl _ _).drew
  replace hS := hS.below hDr
  replace ht := ht.below hDr
  replace VS := VS.below hDr
  replace VL := VL.below hDr
  replace VH := VH.below hDr
  replace BB := BB.trans (hDr.mono BB.size)
  clear hDr
  refine wp_region_held_drew (S := (fun w' => w'.cell? ⟨R2,0,none⟩ = some (.bool pe) ∧ w'.cell? ⟨R2,1,none⟩ = some (.slice ae ne ce) ∧ w'.cell? ⟨R2,2,none⟩ = some (.slice be me de) ∧ w'.cell? ⟨R3,0,none⟩ = some (.int .i64 (A : Int)) ∧ w'.cell? ⟨R3,1,none⟩ = some (.int .i64 (C : Int)) ∧ w'.cell? ⟨R3 + 1,0,none⟩ = some (.int .i64 (D : Int)) ∧ w'.cell? ⟨R3 + 1,1,none⟩ = some (.int .i64 (E : Int)))) (by kernel_rfl) ?_ (fun hHeld => ?_)
  ·exact ⟨VS.1,VS.2.1,VS.2.2.1,VL.1,VL.2.1,VH.1,VH.2.1⟩
  generalize W6.drew = W7 at *
  refine xT 0 (v := ?_) (hy := Or.inl ⟨by rfl,?_⟩) (h := ?_)
  rotate_left
  ·(intro w hSw; (try dsimp only at hSw); go_simp; (try with_reducible rfl))
  (try simp only [Act.put,xL4,xL5,xL6])
  refine xT 1 (v := ?_) (hy := Or.inl ⟨by rfl,?_⟩) (h := ?_)
  rotate_left
  ·(intro w hSw; (try dsimp only at hSw); go_simp; (try with_reducible rfl))
  (try simp only [Act.put,xL4,xL5,xL6])
  refine xT 4 (v := ?_) (hy := Or.inl ⟨by rfl,?_⟩) (h := ?_)
  rotate_left
  ·(intro w hSw; (try dsimp only at hSw); go_simp; (try with_reducible rfl))
  (try simp only [Act.put,xL4,xL5,xL6])
  refine xT 6 (v := ?_) (hy := Or.inl ⟨by rfl,?_⟩) (h := ?_)
  rotate_left
  ·(intro w hSw; (try dsimp only at hSw); go_simp; (try with_reducible rfl))
  (try simp only [Act.put,xL4,xL5,xL6])
  refine xR [2,8,9] (h := ?_)
  refine xC (h := fun K hK => ?_) (hs := ?_)
  ·
   go_simp
   refine (number_at (A : Int) (C : Int) _ (by omega) (by omega) (by omega) (by omega) ht).mono ?_
   rintro e w5 ⟨na,rfl,hna,b5⟩
   rw [hqa] at hna
   go_wp2_with fail
   replace hS := hS.below b5
   replace ht := ht.below b5
   replace VS := VS.below b5
   replace VL := VL.below b5
   replace VH := VH.below b5
   replace BB := BB.trans (b5.mono BB.size)
   clear b5
   refine hK.out _ _ ?_ (fun hH1 => ?_)
   ·exact ⟨VS.1,VS.2.1,VS.2.2.1,VL.1,VL.2.1,VH.1,VH.2.1⟩
   clear hK K hHeld
   (try simp only [Act.put,xL4,xL5,xL6])
   refine xR [3,8,9] (h := ?_)
   refine xC (h := fun K hK => ?_) (hs := ?_)
   ·
    go_simp
    refine (qsub_at _ _ S qa (L + (L + 1) + 1) _ hS (hna.at _ (by omega)) (by omega) (by omega) ht).mono ?_
    rintro e w6 ⟨v1,rfl,h1,b6⟩
    obtain ⟨p1,a1,n1,c1,b1,m1,d1,rfl⟩ := h1.open
    go_wp2_with fail
    replace hS := hS.below b6
    replace ht := ht.below b6
    replace hna := hna.below b6
    replace VS := VS.below b6
    replace VL := VL.below b6
    replace VH := VH.below b6
    replace BB := BB.trans (b6.mono BB.size)
    clear b6
    refine hK.out _ _ ?_ (fun hH2 => ?_)
    ·exact ⟨VS.1,VS.2.1,VS.2.2.1,VL.1,VL.2.1,VH.1,VH.2.1⟩
    clear hK K hH1
    (try simp only [Act.put,xL4,xL5,xL6])
    refine xR [5,8,9] (h := ?_)
    refine xC (h := fun K hK => ?_) (hs := ?_)
    ·
     go_simp
     refine (number_at (D : Int) (E : Int) _ (by omega) (by omega) (by omega) (by omega) ht).mono ?_
     rintro e w7 ⟨nd,rfl,hnd,b7⟩
     rw [hqd] at hnd
     go_wp2_with fail
     replace hS := hS.below b7
     replace ht := ht.below b7
     replace hna := hna.below b7
     replace h1 := h1.below b7
     replace VS := VS.below b7
     replace VL := VL.below b7
     replace VH := VH.below b7
     replace BB := BB.trans (b7.mono BB.size)
     clear b7
     refine hK.out _ _ ?_ (fun hH3 => ?_)
     ·exact ⟨VS.1,VS.2.1,VS.2.2.1,VL.1,VL.2.1,VH.1,VH.2.1⟩
     clear hK K hH2
     (try simp only [Act.put,xL4,xL5,xL6])
     refine xR [7,8,9] (h := ?_)
     refine xC (h := fun K hK => ?_) (hs := ?_)
     ·
      go_simp
      refine (qsub_at _ _ qd S (L + (L + 1) + 1) _ (hnd.at _ (by omega)) hS (by omega) (by omega) ht).mono ?_
      rintro e w8 ⟨v2,rfl,h2,b8⟩
      obtain ⟨p2,a2,n2,c2,b2,m2,d2,rfl⟩ := h2.open
      go_wp2_with fail
      replace hS := hS.below b8
      replace ht := ht.below b8
      replace hna := hna.below b8
      replace h1 := h1.below b8
      replace hnd := hnd.below b8
      replace VS := VS.below b8
      replace VL := VL.below b8
      replace VH := VH.below b8
      replace BB := BB.trans (b8.mono BB.size)
      clear b8
      refine hK.out _ _ ?_ (fun hH4 => ?_)
      ·exact ⟨VS.1,VS.2.1,VS.2.2.1,VL.1,VL.2.1,VH.1,VH.2.1⟩
      clear hK K hH3
      (try simp only [Act.put,xL4,xL5,xL6])
      refine xR [8,9] (h := ?_)
      refine xC (h := fun K hK => ?_) (hs := ?_)
      ·
       go_simp
       have hZ8 : W6.heap.size ≤ w8.heap.size := BB.size
       have hN8VS : R2 ≠ w8.heap.size := Nat.ne_of_lt VS.lt
       have hN8VL : R3 ≠ w8.heap.size := Nat.ne_of_lt VL.lt
       have hN8VH : R3 + 1 ≠ w8.heap.size := Nat.ne_of_lt VH.lt
       obtain ⟨W8,hW8,hS8,hL8,VD⟩ := V3.lay w8 27 (.bool false) (.slice none 0 0) (.slice none 0 0)
       replace hS := hS.below hL8
       replace ht := ht.below hL8
       replace hna := hna.below hL8
       replace h1 := h1.below hL8
       replace hnd := hnd.below hL8
       replace h2 := h2.below hL8
       replace VS := VS.below hL8
       replace VL := VL.below hL8
       replace VH := VH.below hL8
       replace BB := BB.trans (hL8.mono BB.size)
       clear hL8
       rw [← hW8]
       generalize w8.heap.size = R8 at *
       clear hW8 hS8
       refine hK.out _ _ ?_ (fun hH5 => ?_)
       ·exact ⟨VS.1,VS.2.1,VS.2.2.1,VL.1,VL.2.1,VH.1,VH.2.1⟩
       clear hK K hH4
       (try simp only [Act.put,xL4,xL5,xL6])
       refine xR [9] (h := ?_)
       refine xN (h := fun K hK => ?_)
       go_simp
       have hZ9 : W6.heap.size ≤ W8.heap.size := BB.size
       have hN9VS : R2 ≠ W8.heap.size := Nat.ne_of_lt VS.lt
       have hN9VL : R3 ≠ W8.heap.size := Nat.ne_of_lt VL.lt
       have hN9VH : R3 + 1 ≠ W8.heap.size := Nat.ne_of_lt VH.lt
       have hN9VD : R8 ≠ W8.heap.size := Nat.ne_of_lt VD.lt
       obtain ⟨W9,hW9,hS9,hL9,VU⟩ := V3.lay W8 27 (.bool false) (.slice none 0 0) (.slice none 0 0)
       replace hS := hS.below hL9
       replace ht := ht.below hL9
       replace hna := hna.below hL9
       replace h1 := h1.below hL9
       replace hnd := hnd.below hL9
       replace h2 := h2.below hL9
       replace VS := VS.below hL9
       replace VL := VL.below hL9
       replace VH := VH.below hL9
       replace VD := VD.below hL9
       replace BB := BB.trans (hL9.mono BB.size)
       clear hL9
       rw [← hW9]
       generalize W8.heap.size = R9 at *
       clear hW9 hS9
       refine hK.out _ _ ?_ (fun hH6 => ?_)
       ·exact ⟨VS.1,VS.2.1,VS.2.2.1,VL.1,VL.2.1,VH.1,VH.2.1⟩
       clear hK K hH5
       (try simp only [Act.put,xL4,xL5,xL6])
       refine xR [10] (h := ?_)
       refine xN (h := fun K hK => ?_)
       have hKp := VD.keepJ (.bool p1) (.slice a1 n1 c1) (.slice b1 m1 d1)
       have VS_n := VS.other3 (R := R8) (by omega) (.bool p1) (.slice a1 n1 c1) (.slice b1 m1 d1)
       have VL_n := VL.other3 (R := R8) (by omega) (.bool p1) (.slice a1 n1 c1) (.slice b1 m1 d1)
       have VH_n := VH.other3 (R := R8) (by omega) (.bool p1) (.slice a1 n1 c1) (.slice b1 m1 d1)
       have VU_n := VU.other3 (R := R8) (by omega) (.bool p1) (.slice a1 n1 c1) (.slice b1 m1 d1)
       have VD_n := VD.same (.bool p1) (.slice a1 n1 c1) (.slice b1 m1 d1)
       have hS_n := hS.keep hKp
       have ht_n := ht.keep hKp
       have hna_n := hna.keep hKp
       have h1_n := h1.keep hKp
       have hnd_n := hnd.keep hKp
       have h2_n := h2.keep hKp
       have BB_n := below_store3 (R := R8) BB (by omega) (.bool p1) (.slice a1 n1 c1) (.slice b1 m1 d1)
       clear hKp
       obtain ⟨VD_0,VD_1,VD_2,VD_3,VD_4,VD_5⟩ := id VD
       go_simp
       clear VD_0 VD_1 VD_2 VD_3 VD_4 VD_5
       clear BB hS ht hna h1 hnd h2 VS VL VH VD VU
       generalize ((W9.setCell ⟨R8,0,none⟩ (.bool p1)).setCell ⟨R8,1,none⟩ (.slice a1 n1 c1)).setCell ⟨R8,2,none⟩ (.slice b1 m1 d1) = W10 at *
       have BB := BB_n
       have hS := hS_n
       have ht := ht_n
       have hna := hna_n
       have h1 := h1_n
       have hnd := hnd_n
       have h2 := h2_n
       have VS := VS_n
       have VL := VL_n
       have VH := VH_n
       have VD := VD_n
       have VU := VU_n
       clear BB_n hS_n ht_n hna_n h1_n hnd_n h2_n VS_n VL_n VH_n VD_n VU_n
       refine hK.out _ _ ?_ (fun hH7 => ?_)
       ·exact ⟨VS.1,VS.2.1,VS.2.2.1,VL.1,VL.2.1,VH.1,VH.2.1⟩
       clear hK K hH6
       (try simp only [Act.put,xL4,xL5,xL6])
       refine xR [11] (h := ?_)
       refine xN (h := fun K hK => ?_)
       have hKp := VU.keepJ (.bool p2) (.slice a2 n2 c2) (.slice b2 m2 d2)
       have VS_n := VS.other3 (R := R9) (by omega) (.bool p2) (.slice a2 n2 c2) (.slice b2 m2 d2)
       have VL_n := VL.other3 (R := R9) (by omega) (.bool p2) (.slice a2 n2 c2) (.slice b2 m2 d2)
       have VH_n := VH.other3 (R := R9) (by omega) (.bool p2) (.slice a2 n2 c2) (.slice b2 m2 d2)
       have VD_n := VD.other3 (R := R9) (by omega) (.bool p2) (.slice a2 n2 c2) (.slice b2 m2 d2)
       have VU_n := VU.same (.bool p2) (.slice a2 n2 c2) (.slice b2 m2 d2)
       have hS_n := hS.keep hKp
       have ht_n := ht.keep hKp
       have hna_n := hna.keep hKp
       have h1_n := h1.keep hKp
       have hnd_n := hnd.keep hKp
       have h2_n := h2.keep hKp
       have BB_n := below_store3 (R := R9) BB (by omega) (.bool p2) (.slice a2 n2 c2) (.slice b2 m2 d2)
       clear hKp
       obtain ⟨VU_0,VU_1,VU_2,VU_3,VU_4,VU_5⟩ := id VU
       go_simp
       clear VU_0 VU_1 VU_2 VU_3 VU_4 VU_5
       clear BB hS ht hna h1 hnd h2 VS VL VH VD VU
       generalize ((W10.setCell ⟨R9,0,none⟩ (.bool p2)).setCell ⟨R9,1,none⟩ (.slice a2 n2 c2)).setCell ⟨R9,2,none⟩ (.slice b2 m2 d2) = W11 at *
       have BB := BB_n
       have hS := hS_n
       have ht := ht_n
       have hna := hna_n
       have h1 := h1_n
       have hnd := hnd_n
       have h2 := h2_n
       have VS := VS_n
       have VL := VL_n
       have VH := VH_n
       have VD := VD_n
       have VU := VU_n
       clear BB_n hS_n ht_n hna_n h1_n hnd_n h2_n VS_n VL_n VH_n VD_n VU_n
       refine hK.out _ _ ?_ (fun hH8 => ?_)
       ·exact ⟨VS.1,VS.2.1,VS.2.2.1,VL.1,VL.2.1,VH.1,VH.2.1⟩
       clear hK K hH7
       (try simp only [Act.put,xL4,xL5,xL6])
       refine wpAnyH_done (by kernel_rfl) ?_ _
       clear hH8
       go_wp2_with fail
       go_meet
       exact ⟨R8,R9,p1,a1,n1,c1,b1,m1,d1,p2,a2,n2,c2,b2,m2,d2,rfl,rfl,VD,VU,h1,h2,BB⟩
      refine xC (h := fun K hK => ?_) (hs := ?_)
      ·
       go_simp
       have hZ12 : W6.heap.size ≤ w8.heap.size := BB.size
       have hN12VS : R2 ≠ w8.heap.size := Nat.ne_of_lt VS.lt
       have hN12VL : R3 ≠ w8.heap.size := Nat.ne_of_lt VL.lt
       have hN12VH : R3 + 1 ≠ w8.heap.size := Nat.ne_of_lt VH.lt
       obtain ⟨W12,hW12,hS12,hL12,VU⟩ := V3.lay w8 27 (.bool false) (.slice none 0 0) (.slice none 0 0)
       replace hS := hS.below hL12
       replace ht := ht.below hL12
       replace hna := hna.below hL12
       replace h1 := h1.below hL12
       replace hnd := hnd.below hL12
       replace h2 := h2.below hL12
       replace VS := VS.below hL12
       replace VL := VL.below hL12
       replace VH := VH.below hL12
       replace BB := BB.trans (hL12.mono BB.size)
       clear hL12
       rw [← hW12]
       generalize w8.heap.size = R12 at *
       clear hW12 hS12
       refine hK.out _ _ ?_ (fun hH5 => ?_)
       ·exact ⟨VS.1,VS.2.1,VS.2.2.1,VL.1,VL.2.1,VH.1,VH.2.1⟩
       clear hK K hH4
       (try simp only [Act.put,xL4,xL5,xL6])
       refine xR [8] (h := ?_)
       refine xN (h := fun K hK => ?_)
       go_simp
       have hZ13 : W6.heap.size ≤ W12.heap.size := BB.size
       have hN13VS : R2 ≠ W12.heap.size := Nat.ne_of_lt VS.lt
       have hN13VL : R3 ≠ W12.heap.size := Nat.ne_of_lt VL.lt
       have hN13VH : R3 + 1 ≠ W12.heap.size := Nat.ne_of_lt VH.lt
       have hN13VU : R12 ≠ W12.heap.size := Nat.ne_of_lt VU.lt
       obtain ⟨W13,hW13,hS13,hL13,VD⟩ := V3.lay W12 27 (.bool false) (.slice none 0 0) (.slice none 0 0)
       replace hS := hS.below hL13
       replace ht := ht.below hL13
       replace hna := hna.below hL13
       replace h1 := h1.below hL13
       replace hnd := hnd.below hL13
       replace h2 := h2.below hL13
       replace VS := VS.below hL13
       replace VL := VL.below hL13
       replace VH := VH.below hL13
       replace VU := VU.below hL13
       replace BB := BB.trans (hL13.mono BB.size)
       clear hL13
       rw [← hW13]
       generalize W12.heap.size = R13 at *
       clear hW13 hS13
       refine hK.out _ _ ?_ (fun hH6 => ?_)
       ·exact ⟨VS.1,VS.2.1,VS.2.2.1,VL.1,VL.2.1,VH.1,VH.2.1⟩
       clear hK K hH5
       (try simp only [Act.put,xL4,xL5,xL6])
       refine xR [10] (h := ?_)
       refine xN (h := fun K hK => ?_)
       have hKp := VD.keepJ (.bool p1) (.slice a1 n1 c1) (.slice b1 m1 d1)
       have VS_n := VS.other3 (R := R13) (by omega) (.bool p1) (.slice a1 n1 c1) (.slice b1 m1 d1)
       have VL_n := VL.other3 (R := R13) (by omega) (.bool p1) (.slice a1 n1 c1) (.slice b1 m1 d1)
       have VH_n := VH.other3 (R := R13) (by omega) (.bool p1) (.slice a1 n1 c1) (.slice b1 m1 d1)
       have VU_n := VU.other3 (R := R13) (by omega) (.bool p1) (.slice a1 n1 c1) (.slice b1 m1 d1)
       have VD_n := VD.same (.bool p1) (.slice a1 n1 c1) (.slice b1 m1 d1)
       have hS_n := hS.keep hKp
       have ht_n := ht.keep hKp
       have hna_n := hna.keep hKp
       have h1_n := h1.keep hKp
       have hnd_n := hnd.keep hKp
       have h2_n := h2.keep hKp
       have BB_n := below_store3 (R := R13) BB (by omega) (.bool p1) (.slice a1 n1 c1) (.slice b1 m1 d1)
       clear hKp
       obtain ⟨VD_0,VD_1,VD_2,VD_3,VD_4,VD_5⟩ := id VD
       go_simp
       clear VD_0 VD_1 VD_2 VD_3 VD_4 VD_5
       clear BB hS ht hna h1 hnd h2 VS VL VH VU VD
       generalize ((W13.setCell ⟨R13,0,none⟩ (.bool p1)).setCell ⟨R13,1,none⟩ (.slice a1 n1 c1)).setCell ⟨R13,2,none⟩ (.slice b1 m1 d1) = W14 at *
       have BB := BB_n
       have hS := hS_n
       have ht := ht_n
       have hna := hna_n
       have h1 := h1_n
       have hnd := hnd_n
       have h2 := h2_n
       have VS := VS_n
       have VL := VL_n
       have VH := VH_n
       have VU := VU_n
       have VD := VD_n
       clear BB_n hS_n ht_n hna_n h1_n hnd_n h2_n VS_n VL_n VH_n VU_n VD_n
       refine hK.out _ _ ?_ (fun hH7 => ?_)
       ·exact ⟨VS.1,VS.2.1,VS.2.2.1,VL.1,VL.2.1,VH.1,VH.2.1⟩
       clear hK K hH6
       (try simp only [Act.put,xL4,xL5,xL6])
       refine xR [11] (h := ?_)
       refine xN (h := fun K hK => ?_)
       have hKp := VU.keepJ (.bool p2) (.slice a2 n2 c2) (.slice b2 m2 d2)
       have VS_n := VS.other3 (R := R12) (by omega) (.bool p2) (.slice a2 n2 c2) (.slice b2 m2 d2)
       have VL_n := VL.other3 (R := R12) (by omega) (.bool p2) (.slice a2 n2 c2) (.slice b2 m2 d2)
       have VH_n := VH.other3 (R := R12) (by omega) (.bool p2) (.slice a2 n2 c2) (.slice b2 m2 d2)
       have VD_n := VD.other3 (R := R12) (by omega) (.bool p2) (.slice a2 n2 c2) (.slice b2 m2 d2)
       have VU_n := VU.same (.bool p2) (.slice a2 n2 c2) (.slice b2 m2 d2)
       have hS_n := hS.keep hKp
       have ht_n := ht.keep hKp
       have hna_n := hna.keep hKp
       have h1_n := h1.keep hKp
       have hnd_n := hnd.keep hKp
       have h2_n := h2.keep hKp
       have BB_n := below_store3 (R := R12) BB (by omega) (.bool p2) (.slice a2 n2 c2) (.slice b2 m2 d2)
       clear hKp
       obtain ⟨VU_0,VU_1,VU_2,VU_3,VU_4,VU_5⟩ := id VU
       go_simp
       clear VU_0 VU_1 VU_2 VU_3 VU_4 VU_5
       clear BB hS ht hna h1 hnd h2 VS VL VH VU VD
       generalize ((W14.setCell ⟨R12,0,none⟩ (.bool p2)).setCell ⟨R12,1,none⟩ (.slice a2 n2 c2)).setCell ⟨R12,2,none⟩ (.slice b2 m2 d2) = W15 at *
       have BB := BB_n
       have hS := hS_n
       have ht := ht_n
       have hna := hna_n
       have h1 := h1_n
       have hnd := hnd_n
       have h2 := h2_n
       have VS := VS_n
       have VL := VL_n
       have VH := VH_n
       have VU := VU_n
       have VD := VD_n
       clear BB_n hS_n ht_n hna_n h1_n hnd_n h2_n VS_n VL_n VH_n VU_n VD_n
       refine hK.out _ _ ?_ (fun hH8 => ?_)
       ·exact ⟨VS.1,VS.2.1,VS.2.2.1,VL.1,VL.2.1,VH.1,VH.2.1⟩
       clear hK K hH7
       (try simp only [Act.put,xL4,xL5,xL6])
       refine wpAnyH_done (by kernel_rfl) ?_ _
       clear hH8
       go_wp2_with fail
       go_meet
       exact ⟨R13,R12,p1,a1,n1,c1,b1,m1,d1,p2,a2,n2,c2,b2,m2,d2,rfl,rfl,VD,VU,h1,h2,BB⟩
      exact AllReadyH.nil
     refine xC (h := fun K hK => ?_) (hs := ?_)
     ·
      go_simp
      have hZ16 : W6.heap.size ≤ w7.heap.size := BB.size
      have hN16VS : R2 ≠ w7.heap.size := Nat.ne_of_lt VS.lt
      have hN16VL : R3 ≠ w7.heap.size := Nat.ne_of_lt VL.lt
      have hN16VH : R3 + 1 ≠ w7.heap.size := Nat.ne_of_lt VH.lt
      obtain ⟨W16,hW16,hS16,hL16,VD⟩ := V3.lay w7 27 (.bool false) (.slice none 0 0) (.slice none 0 0)
      replace hS := hS.below hL16
      replace ht := ht.below hL16
      replace hna := hna.below hL16
      replace h1 := h1.below hL16
      replace hnd := hnd.below hL16
      replace VS := VS.below hL16
      replace VL := VL.below hL16
      replace VH := VH.below hL16
      replace BB := BB.trans (hL16.mono BB.size)
      clear hL16
      rw [← hW16]
      generalize w7.heap.size = R16 at *
      clear hW16 hS16
      refine hK.out _ _ ?_ (fun hH4 => ?_)
      ·exact ⟨VS.1,VS.2.1,VS.2.2.1,VL.1,VL.2.1,VH.1,VH.2.1⟩
      clear hK K hH3
      (try simp only [Act.put,xL4,xL5,xL6])
      refine xR [7,9] (h := ?_)
      refine xC (h := fun K hK => ?_) (hs := ?_)
      ·
       go_simp
       refine (qsub_at _ _ qd S (L + (L + 1) + 1) _ (hnd.at _ (by omega)) hS (by omega) (by omega) ht).mono ?_
       rintro e w9 ⟨v2,rfl,h2,b9⟩
       obtain ⟨p2,a2,n2,c2,b2,m2,d2,rfl⟩ := h2.open
       go_wp2_with fail
       replace hS := hS.below b9
       replace ht := ht.below b9
       replace hna := hna.below b9
       replace h1 := h1.below b9
       replace hnd := hnd.below b9
       replace VS := VS.below b9
       replace VL := VL.below b9
       replace VH := VH.below b9
       replace VD := VD.below b9
       replace BB := BB.trans (b9.mono BB.size)
       clear b9
       refine hK.out _ _ ?_ (fun hH5 => ?_)
       ·exact ⟨VS.1,VS.2.1,VS.2.2.1,VL.1,VL.2.1,VH.1,VH.2.1⟩
       clear hK K hH4
       (try simp only [Act.put,xL4,xL5,xL6])
       refine xR [9] (h := ?_)
       refine xN (h := fun K hK => ?_)
       go_simp
       have hZ17 : W6.heap.size ≤ w9.heap.size := BB.size
       have hN17VS : R2 ≠ w9.heap.size := Nat.ne_of_lt VS.lt
       have hN17VL : R3 ≠ w9.heap.size := Nat.ne_of_lt VL.lt
       have hN17VH : R3 + 1 ≠ w9.heap.size := Nat.ne_of_lt VH.lt
       have hN17VD : R16 ≠ w9.heap.size := Nat.ne_of_lt VD.lt
       obtain ⟨W17,hW17,hS17,hL17,VU⟩ := V3.lay w9 27 (.bool false) (.slice none 0 0) (.slice none 0 0)
       replace hS := hS.below hL17
       replace ht := ht.below hL17
       replace hna := hna.below hL17
       replace h1 := h1.below hL17
       replace hnd := hnd.below hL17
       replace h2 := h2.below hL17
       replace VS := VS.below hL17
       replace VL := VL.below hL17
       replace VH := VH.below hL17
       replace VD := VD.below hL17
       replace BB := BB.trans (hL17.mono BB.size)
       clear hL17
       rw [← hW17]
       generalize w9.heap.size = R17 at *
       clear hW17 hS17
       refine hK.out _ _ ?_ (fun hH6 => ?_)
       ·exact ⟨VS.1,VS.2.1,VS.2.2.1,VL.1,VL.2.1,VH.1,VH.2.1⟩
       clear hK K hH5
       (try simp only [Act.put,xL4,xL5,xL6])
       refine xR [10] (h := ?_)
       refine xN (h := fun K hK => ?_)
       have hKp := VD.keepJ (.bool p1) (.slice a1 n1 c1) (.slice b1 m1 d1)
       have VS_n := VS.other3 (R := R16) (by omega) (.bool p1) (.slice a1 n1 c1) (.slice b1 m1 d1)
       have VL_n := VL.other3 (R := R16) (by omega) (.bool p1) (.slice a1 n1 c1) (.slice b1 m1 d1)
       have VH_n := VH.other3 (R := R16) (by omega) (.bool p1) (.slice a1 n1 c1) (.slice b1 m1 d1)
       have VU_n := VU.other3 (R := R16) (by omega) (.bool p1) (.slice a1 n1 c1) (.slice b1 m1 d1)
       have VD_n := VD.same (.bool p1) (.slice a1 n1 c1) (.slice b1 m1 d1)
       have hS_n := hS.keep hKp
       have ht_n := ht.keep hKp
       have hna_n := hna.keep hKp
       have h1_n := h1.keep hKp
       have hnd_n := hnd.keep hKp
       have h2_n := h2.keep hKp
       have BB_n := below_store3 (R := R16) BB (by omega) (.bool p1) (.slice a1 n1 c1) (.slice b1 m1 d1)
       clear hKp
       obtain ⟨VD_0,VD_1,VD_2,VD_3,VD_4,VD_5⟩ := id VD
       go_simp
       clear VD_0 VD_1 VD_2 VD_3 VD_4 VD_5
       clear BB hS ht hna h1 hnd h2 VS VL VH VD VU
       generalize ((W17.setCell ⟨R16,0,none⟩ (.bool p1)).setCell ⟨R16,1,none⟩ (.slice a1 n1 c1)).setCell ⟨R16,2,none⟩ (.slice b1 m1 d1) = W18 at *
       have BB := BB_n
       have hS := hS_n
       have ht := ht_n
       have hna := hna_n
       have h1 := h1_n
       have hnd := hnd_n
       have h2 := h2_n
       have VS := VS_n
       have VL := VL_n
       have VH := VH_n
       have VD := VD_n
       have VU := VU_n
       clear BB_n hS_n ht_n hna_n h1_n hnd_n h2_n VS_n VL_n VH_n VD_n VU_n
       refine hK.out _ _ ?_ (fun hH7 => ?_)
       ·exact ⟨VS.1,VS.2.1,VS.2.2.1,VL.1,VL.2.1,VH.1,VH.2.1⟩
       clear hK K hH6
       (try simp only [Act.put,xL4,xL5,xL6])
       refine xR [11] (h := ?_)
       refine xN (h := fun K hK => ?_)
       have hKp := VU.keepJ (.bool p2) (.slice a2 n2 c2) (.slice b2 m2 d2)
       have VS_n := VS.other3 (R := R17) (by omega) (.bool p2) (.slice a2 n2 c2) (.slice b2 m2 d2)
       have VL_n := VL.other3 (R := R17) (by omega) (.bool p2) (.slice a2 n2 c2) (.slice b2 m2 d2)
       have VH_n := VH.other3 (R := R17) (by omega) (.bool p2) (.slice a2 n2 c2) (.slice b2 m2 d2)
       have VD_n := VD.other3 (R := R17) (by omega) (.bool p2) (.slice a2 n2 c2) (.slice b2 m2 d2)
       have VU_n := VU.same (.bool p2) (.slice a2 n2 c2) (.slice b2 m2 d2)
       have hS_n := hS.keep hKp
       have ht_n := ht.keep hKp
       have hna_n := hna.keep hKp
       have h1_n := h1.keep hKp
       have hnd_n := hnd.keep hKp
       have h2_n := h2.keep hKp
       have BB_n := below_store3 (R := R17) BB (by omega) (.bool p2) (.slice a2 n2 c2) (.slice b2 m2 d2)
       clear hKp
       obtain ⟨VU_0,VU_1,VU_2,VU_3,VU_4,VU_5⟩ := id VU
       go_simp
       clear VU_0 VU_1 VU_2 VU_3 VU_4 VU_5
       clear BB hS ht hna h1 hnd h2 VS VL VH VD VU
       generalize ((W18.setCell ⟨R17,0,none⟩ (.bool p2)).setCell ⟨R17,1,none⟩ (.slice a2 n2 c2)).setCell ⟨R17,2,none⟩ (.slice b2 m2 d2) = W19 at *
       have BB := BB_n
       have hS := hS_n
       have ht := ht_n
       have hna := hna_n
       have h1 := h1_n
       have hnd := hnd_n
       have h2 := h2_n
       have VS := VS_n
       have VL := VL_n
       have VH := VH_n
       have VD := VD_n
       have VU := VU_n
       clear BB_n hS_n ht_n hna_n h1_n hnd_n h2_n VS_n VL_n VH_n VD_n VU_n
       refine hK.out _ _ ?_ (fun hH8 => ?_)
       ·exact ⟨VS.1,VS.2.1,VS.2.2.1,VL.1,VL.2.1,VH.1,VH.2.1⟩
       clear hK K hH7
       (try simp only [Act.put,xL4,xL5,xL6])
       refine wpAnyH_done (by kernel_rfl) ?_ _
       clear hH8
       go_wp2_with fail
       go_meet
       exact ⟨R16,R17,p1,a1,n1,c1,b1,m1,d1,p2,a2,n2,c2,b2,m2,d2,rfl,rfl,VD,VU,h1,h2,BB⟩
      refine xC (h := fun K hK => ?_) (hs := ?_)
      ·
       go_simp
       have hZ20 : W6.heap.size ≤ W16.heap.size := BB.size
       have hN20VS : R2 ≠ W16.heap.size := Nat.ne_of_lt VS.lt
       have hN20VL : R3 ≠ W16.heap.size := Nat.ne_of_lt VL.lt
       have hN20VH : R3 + 1 ≠ W16.heap.size := Nat.ne_of_lt VH.lt
       have hN20VD : R16 ≠ W16.heap.size := Nat.ne_of_lt VD.lt
       obtain ⟨W20,hW20,hS20,hL20,VU⟩ := V3.lay W16 27 (.bool false) (.slice none 0 0) (.slice none 0 0)
       replace hS := hS.below hL20
       replace ht := ht.below hL20
       replace hna := hna.below hL20
       replace h1 := h1.below hL20
       replace hnd := hnd.below hL20
       replace VS := VS.below hL20
       replace VL := VL.below hL20
       replace VH := VH.below hL20
       replace VD := VD.below hL20
       replace BB := BB.trans (hL20.mono BB.size)
       clear hL20
       rw [← hW20]
       generalize W16.heap.size = R20 at *
       clear hW20 hS20
       refine hK.out _ _ ?_ (fun hH5 => ?_)
       ·exact ⟨VS.1,VS.2.1,VS.2.2.1,VL.1,VL.2.1,VH.1,VH.2.1⟩
       clear hK K hH4
       (try simp only [Act.put,xL4,xL5,xL6])
       refine xR [7] (h := ?_)
       refine xN (h := fun K hK => ?_)
       go_simp
       refine (qsub_at _ _ qd S (L + (L + 1) + 1) _ (hnd.at _ (by omega)) hS (by omega) (by omega) ht).mono ?_
       rintro e w10 ⟨v2,rfl,h2,b10⟩
       obtain ⟨p2,a2,n2,c2,b2,m2,d2,rfl⟩ := h2.open
       go_wp2_with fail
       replace hS := hS.below b10
       replace ht := ht.below b10
       replace hna := hna.below b10
       replace h1 := h1.below b10
       replace hnd := hnd.below b10
       replace VS := VS.below b10
       replace VL := VL.below b10
       replace VH := VH.below b10
       replace VD := VD.below b10
       replace VU := VU.below b10
       replace BB := BB.trans (b10.mono BB.size)
       clear b10
       refine hK.out _ _ ?_ (fun hH6 => ?_)
       ·exact ⟨VS.1,VS.2.1,VS.2.2.1,VL.1,VL.2.1,VH.1,VH.2.1⟩
       clear hK K hH5
       (try simp only [Act.put,xL4,xL5,xL6])
       refine xR [10] (h := ?_)
       refine xN (h := fun K hK => ?_)
       have hKp := VD.keepJ (.bool p1) (.slice a1 n1 c1) (.slice b1 m1 d1)
       have VS_n := VS.other3 (R := R16) (by omega) (.bool p1) (.slice a1 n1 c1) (.slice b1 m1 d1)
       have VL_n := VL.other3 (R := R16) (by omega) (.bool p1) (.slice a1 n1 c1) (.slice b1 m1 d1)
       have VH_n := VH.other3 (R := R16) (by omega) (.bool p1) (.slice a1 n1 c1) (.slice b1 m1 d1)
       have VU_n := VU.other3 (R := R16) (by omega) (.bool p1) (.slice a1 n1 c1) (.slice b1 m1 d1)
       have VD_n := VD.same (.bool p1) (.slice a1 n1 c1) (.slice b1 m1 d1)
       have hS_n := hS.keep hKp
       have ht_n := ht.keep hKp
       have hna_n := hna.keep hKp
       have h1_n := h1.keep hKp
       have hnd_n := hnd.keep hKp
       have h2_n := h2.keep hKp
       have BB_n := below_store3 (R := R16) BB (by omega) (.bool p1) (.slice a1 n1 c1) (.slice b1 m1 d1)
       clear hKp
       obtain ⟨VD_0,VD_1,VD_2,VD_3,VD_4,VD_5⟩ := id VD
       go_simp
       clear VD_0 VD_1 VD_2 VD_3 VD_4 VD_5
       clear BB hS ht hna h1 hnd h2 VS VL VH VD VU
       generalize ((w10.setCell ⟨R16,0,none⟩ (.bool p1)).setCell ⟨R16,1,none⟩ (.slice a1 n1 c1)).setCell ⟨R16,2,none⟩ (.slice b1 m1 d1) = W21 at *
       have BB := BB_n
       have hS := hS_n
       have ht := ht_n
       have hna := hna_n
       have h1 := h1_n
       have hnd := hnd_n
       have h2 := h2_n
       have VS := VS_n
       have VL := VL_n
       have VH := VH_n
       have VD := VD_n
       have VU := VU_n
       clear BB_n hS_n ht_n hna_n h1_n hnd_n h2_n VS_n VL_n VH_n VD_n VU_n
       refine hK.out _ _ ?_ (fun hH7 => ?_)
       ·exact ⟨VS.1,VS.2.1,VS.2.2.1,VL.1,VL.2.1,VH.1,VH.2.1⟩
       clear hK K hH6
       (try simp only [Act.put,xL4,xL5,xL6])
       refine xR [11] (h := ?_)
       refine xN (h := fun K hK => ?_)
       have hKp := VU.keepJ (.bool p2) (.slice a2 n2 c2) (.slice b2 m2 d2)
       have VS_n := VS.other3 (R := R20) (by omega) (.bool p2) (.slice a2 n2 c2) (.slice b2 m2 d2)
       have VL_n := VL.other3 (R := R20) (by omega) (.bool p2) (.slice a2 n2 c2) (.slice b2 m2 d2)
       have VH_n := VH.other3 (R := R20) (by omega) (.bool p2) (.slice a2 n2 c2) (.slice b2 m2 d2)
       have VD_n := VD.other3 (R := R20) (by omega) (.bool p2) (.slice a2 n2 c2) (.slice b2 m2 d2)
       have VU_n := VU.same (.bool p2) (.slice a2 n2 c2) (.slice b2 m2 d2)
       have hS_n := hS.keep hKp
       have ht_n := ht.keep hKp
       have hna_n := hna.keep hKp
       have h1_n := h1.keep hKp
       have hnd_n := hnd.keep hKp
       have h2_n := h2.keep hKp
       have BB_n := below_store3 (R := R20) BB (by omega) (.bool p2) (.slice a2 n2 c2) (.slice b2 m2 d2)
       clear hKp
       obtain ⟨VU_0,VU_1,VU_2,VU_3,VU_4,VU_5⟩ := id VU
       go_simp
       clear VU_0 VU_1 VU_2 VU_3 VU_4 VU_5
       clear BB hS ht hna h1 hnd h2 VS VL VH VD VU
       generalize ((W21.setCell ⟨R20,0,none⟩ (.bool p2)).setCell ⟨R20,1,none⟩ (.slice a2 n2 c2)).setCell ⟨R20,2,none⟩ (.slice b2 m2 d2) = W22 at *
       have BB := BB_n
       have hS := hS_n
       have ht := ht_n
       have hna := hna_n
       have h1 := h1_n
       have hnd := hnd_n
       have h2 := h2_n
       have VS := VS_n
       have VL := VL_n
       have VH := VH_n
       have VD := VD_n
       have VU := VU_n
       clear BB_n hS_n ht_n hna_n h1_n hnd_n h2_n VS_n VL_n VH_n VD_n VU_n
       refine hK.out _ _ ?_ (fun hH8 => ?_)
       ·exact ⟨VS.1,VS.2.1,VS.2.2.1,VL.1,VL.2.1,VH.1,VH.2.1⟩
       clear hK K hH7
       (try simp only [Act.put,xL4,xL5,xL6])
       refine wpAnyH_done (by kernel_rfl) ?_ _
       clear hH8
       go_wp2_with fail
       go_meet
       exact ⟨R16,R20,p1,a1,n1,c1,b1,m1,d1,p2,a2,n2,c2,b2,m2,d2,rfl,rfl,VD,VU,h1,h2,BB⟩
      exact AllReadyH.nil
     refine xC (h := fun K hK => ?_) (hs := ?_)
     ·
      go_simp
      have hZ23 : W6.heap.size ≤ w7.heap.size := BB.size
      have hN23VS : R2 ≠ w7.heap.size := Nat.ne_of_lt VS.lt
      have hN23VL : R3 ≠ w7.heap.size := Nat.ne_of_lt VL.lt
      have hN23VH : R3 + 1 ≠ w7.heap.size := Nat.ne_of_lt VH.lt
      obtain ⟨W23,hW23,hS23,hL23,VU⟩ := V3.lay w7 27 (.bool false) (.slice none 0 0) (.slice none 0 0)
      replace hS := hS.below hL23
      replace ht := ht.below hL23
      replace hna := hna.below hL23
      replace h1 := h1.below hL23
      replace hnd := hnd.below hL23
      replace VS := VS.below hL23
      replace VL := VL.below hL23
      replace VH := VH.below hL23
      replace BB := BB.trans (hL23.mono BB.size)
      clear hL23
      rw [← hW23]
      generalize w7.heap.size = R23 at *
      clear hW23 hS23
      refine hK.out _ _ ?_ (fun hH4 => ?_)
      ·exact ⟨VS.1,VS.2.1,VS.2.2.1,VL.1,VL.2.1,VH.1,VH.2.1⟩
      clear hK K hH3
      (try simp only [Act.put,xL4,xL5,xL6])
      refine xR [7,8] (h := ?_)
      refine xC (h := fun K hK => ?_) (hs := ?_)
      ·
       go_simp
       refine (qsub_at _ _ qd S (L + (L + 1) + 1) _ (hnd.at _ (by omega)) hS (by omega) (by omega) ht).mono ?_
       rintro e w11 ⟨v2,rfl,h2,b11⟩
       obtain ⟨p2,a2,n2,c2,b2,m2,d2,rfl⟩ := h2.open
       go_wp2_with fail
       replace hS := hS.below b11
       replace ht := ht.below b11
       replace hna := hna.below b11
       replace h1 := h1.below b11
       replace hnd := hnd.below b11
       replace VS := VS.below b11
       replace VL := VL.below b11
       replace VH := VH.below b11
       replace VU := VU.below b11
       replace BB := BB.trans (b11.mono BB.size)
       clear b11
       refine hK.out _ _ ?_ (fun hH5 => ?_)
       ·exact ⟨VS.1,VS.2.1,VS.2.2.1,VL.1,VL.2.1,VH.1,VH.2.1⟩
       clear hK K hH4
       (try simp only [Act.put,xL4,xL5,xL6])
       refine xR [8] (h := ?_)
       refine xN (h := fun K hK => ?_)
       go_simp
       have hZ24 : W6.heap.size ≤ w11.heap.size := BB.size
       have hN24VS : R2 ≠ w11.heap.size := Nat.ne_of_lt VS.lt
       have hN24VL : R3 ≠ w11.heap.size := Nat.ne_of_lt VL.lt
       have hN24VH : R3 + 1 ≠ w11.heap.size := Nat.ne_of_lt VH.lt
       have hN24VU : R23 ≠ w11.heap.size := Nat.ne_of_lt VU.lt
       obtain ⟨W24,hW24,hS24,hL24,VD⟩ := V3.lay w11 27 (.bool false) (.slice none 0 0) (.slice none 0 0)
       replace hS := hS.below hL24
       replace ht := ht.below hL24
       replace hna := hna.below hL24
       replace h1 := h1.below hL24
       replace hnd := hnd.below hL24
       replace h2 := h2.below hL24
       replace VS := VS.below hL24
       replace VL := VL.below hL24
       replace VH := VH.below hL24
       replace VU := VU.below hL24
       replace BB := BB.trans (hL24.mono BB.size)
       clear hL24
       rw [← hW24]
       generalize w11.heap.size = R24 at *
       clear hW24 hS24
       refine hK.out _ _ ?_ (fun hH6 => ?_)
       ·exact ⟨VS.1,VS.2.1,VS.2.2.1,VL.1,VL.2.1,VH.1,VH.2.1⟩
       clear hK K hH5
       (try simp only [Act.put,xL4,xL5,xL6])
       refine xR [10] (h := ?_)
       refine xN (h := fun K hK => ?_)
       have hKp := VD.keepJ (.bool p1) (.slice a1 n1 c1) (.slice b1 m1 d1)
       have VS_n := VS.other3 (R := R24) (by omega) (.bool p1) (.slice a1 n1 c1) (.slice b1 m1 d1)
       have VL_n := VL.other3 (R := R24) (by omega) (.bool p1) (.slice a1 n1 c1) (.slice b1 m1 d1)
       have VH_n := VH.other3 (R := R24) (by omega) (.bool p1) (.slice a1 n1 c1) (.slice b1 m1 d1)
       have VU_n := VU.other3 (R := R24) (by omega) (.bool p1) (.slice a1 n1 c1) (.slice b1 m1 d1)
       have VD_n := VD.same (.bool p1) (.slice a1 n1 c1) (.slice b1 m1 d1)
       have hS_n := hS.keep hKp
       have ht_n := ht.keep hKp
       have hna_n := hna.keep hKp
       have h1_n := h1.keep hKp
       have hnd_n := hnd.keep hKp
       have h2_n := h2.keep hKp
       have BB_n := below_store3 (R := R24) BB (by omega) (.bool p1) (.slice a1 n1 c1) (.slice b1 m1 d1)
       clear hKp
       obtain ⟨VD_0,VD_1,VD_2,VD_3,VD_4,VD_5⟩ := id VD
       go_simp
       clear VD_0 VD_1 VD_2 VD_3 VD_4 VD_5
       clear BB hS ht hna h1 hnd h2 VS VL VH VU VD
       generalize ((W24.setCell ⟨R24,0,none⟩ (.bool p1)).setCell ⟨R24,1,none⟩ (.slice a1 n1 c1)).setCell ⟨R24,2,none⟩ (.slice b1 m1 d1) = W25 at *
       have BB := BB_n
       have hS := hS_n
       have ht := ht_n
       have hna := hna_n
       have h1 := h1_n
       have hnd := hnd_n
       have h2 := h2_n
       have VS := VS_n
       have VL := VL_n
       have VH := VH_n
       have VU := VU_n
       have VD := VD_n
       clear BB_n hS_n ht_n hna_n h1_n hnd_n h2_n VS_n VL_n VH_n VU_n VD_n
       refine hK.out _ _ ?_ (fun hH7 => ?_)
       ·exact ⟨VS.1,VS.2.1,VS.2.2.1,VL.1,VL.2.1,VH.1,VH.2.1⟩
       clear hK K hH6
       (try simp only [Act.put,xL4,xL5,xL6])
       refine xR [11] (h := ?_)
       refine xN (h := fun K hK => ?_)
       have hKp := VU.keepJ (.bool p2) (.slice a2 n2 c2) (.slice b2 m2 d2)
       have VS_n := VS.other3 (R := R23) (by omega) (.bool p2) (.slice a2 n2 c2) (.slice b2 m2 d2)
       have VL_n := VL.other3 (R := R23) (by omega) (.bool p2) (.slice a2 n2 c2) (.slice b2 m2 d2)
       have VH_n := VH.other3 (R := R23) (by omega) (.bool p2) (.slice a2 n2 c2) (.slice b2 m2 d2)
       have VD_n := VD.other3 (R := R23) (by omega) (.bool p2) (.slice a2 n2 c2) (.slice b2 m2 d2)
       have VU_n := VU.same (.bool p2) (.slice a2 n2 c2) (.slice b2 m2 d2)
       have hS_n := hS.keep hKp
       have ht_n := ht.keep hKp
       have hna_n := hna.keep hKp
       have h1_n := h1.keep hKp
       have hnd_n := hnd.keep hKp
       have h2_n := h2.keep hKp
       have BB_n := below_store3 (R := R23) BB (by omega) (.bool p2) (.slice a2 n2 c2) (.slice b2 m2 d2)
       clear hKp
       obtain ⟨VU_0,VU_1,VU_2,VU_3,VU_4,VU_5⟩ := id VU
       go_simp
       clear VU_0 VU_1 VU_2 VU_3 VU_4 VU_5
       clear BB hS ht hna h1 hnd h2 VS VL VH VU VD
       generalize ((W25.setCell ⟨R23,0,none⟩ (.bool p2)).setCell ⟨R23,1,none⟩ (.slice a2 n2 c2)).setCell ⟨R23,2,none⟩ (.slice b2 m2 d2) = W26 at *
       have BB := BB_n
       have hS := hS_n
       have ht := ht_n
       have hna := hna_n
       have h1 := h1_n
       have hnd := hnd_n
       have h2 := h2_n
       have VS := VS_n
       have VL := VL_n
       have VH := VH_n
       have VU := VU_n
       have VD := VD_n
       clear BB_n hS_n ht_n hna_n h1_n hnd_n h2_n VS_n VL_n VH_n VU_n VD_n
       refine hK.out _ _ ?_ (fun hH8 => ?_)
       ·exact ⟨VS.1,VS.2.1,VS.2.2.1,VL.1,VL.2.1,VH.1,VH.2.1⟩
       clear hK K hH7
       (try simp only [Act.put,xL4,xL5,xL6])
       refine wpAnyH_done (by kernel_rfl) ?_ _
       clear hH8
       go_wp2_with fail
       go_meet
       exact ⟨R24,R23,p1,a1,n1,c1,b1,m1,d1,p2,a2,n2,c2,b2,m2,d2,rfl,rfl,VD,VU,h1,h2,BB⟩
      refine xC (h := fun K hK => ?_) (hs := ?_)
      ·
       go_simp
       have hZ27 : W6.heap.size ≤ W23.heap.size := BB.size
       have hN27VS : R2 ≠ W23.heap.size := Nat.ne_of_lt VS.lt
       have hN27VL : R3 ≠ W23.heap.size := Nat.ne_of_lt VL.lt
       have hN27VH : R3 + 1 ≠ W23.heap.size := Nat.ne_of_lt VH.lt
       have hN27VU : R23 ≠ W23.heap.size := Nat.ne_of_lt VU.lt
       obtain ⟨W27,hW27,hS27,hL27,VD⟩ := V3.lay W23 27 (.bool false) (.slice none 0 0) (.slice none 0 0)
       replace hS := hS.below hL27
       replace ht := ht.below hL27
       replace hna := hna.below hL27
       replace h1 := h1.below hL27
       replace hnd := hnd.below hL27
       replace VS := VS.below hL27
       replace VL := VL.below hL27
       replace VH := VH.below hL27
       replace VU := VU.below hL27
       replace BB := BB.trans (hL27.mono BB.size)
       clear hL27
       rw [← hW27]
       generalize W23.heap.size = R27 at *
       clear hW27 hS27
       refine hK.out _ _ ?_ (fun hH5 => ?_)
       ·exact ⟨VS.1,VS.2.1,VS.2.2.1,VL.1,VL.2.1,VH.1,VH.2.1⟩
       clear hK K hH4
       (try simp only [Act.put,xL4,xL5,xL6])
       refine xR [7] (h := ?_)
       refine xN (h := fun K hK => ?_)
       go_simp
       refine (qsub_at _ _ qd S (L + (L + 1) + 1) _ (hnd.at _ (by omega)) hS (by omega) (by omega) ht).mono ?_
       rintro e w12 ⟨v2,rfl,h2,b12⟩
       obtain ⟨p2,a2,n2,c2,b2,m2,d2,rfl⟩ := h2.open
       go_wp2_with fail
       replace hS := hS.below b12
       replace ht := ht.below b12
       replace hna := hna.below b12
       replace h1 := h1.below b12
       replace hnd := hnd.below b12
       replace VS := VS.below b12
       replace VL := VL.below b12
       replace VH := VH.below b12
       replace VU := VU.below b12
       replace VD := VD.below b12
       replace BB := BB.trans (b12.mono BB.size)
       clear b12
       refine hK.out _ _ ?_ (fun hH6 => ?_)
       ·exact ⟨VS.1,VS.2.1,VS.2.2.1,VL.1,VL.2.1,VH.1,VH.2.1⟩
       clear hK K hH5
       (try simp only [Act.put,xL4,xL5,xL6])
       refine xR [10] (h := ?_)
       refine xN (h := fun K hK => ?_)
       have hKp := VD.keepJ (.bool p1) (.slice a1 n1 c1) (.slice b1 m1 d1)
       have VS_n := VS.other3 (R := R27) (by omega) (.bool p1) (.slice a1 n1 c1) (.slice b1 m1 d1)
       have VL_n := VL.other3 (R := R27) (by omega) (.bool p1) (.slice a1 n1 c1) (.slice b1 m1 d1)
       have VH_n := VH.other3 (R := R27) (by omega) (.bool p1) (.slice a1 n1 c1) (.slice b1 m1 d1)
       have VU_n := VU.other3 (R := R27) (by omega) (.bool p1) (.slice a1 n1 c1) (.slice b1 m1 d1)
       have VD_n := VD.same (.bool p1) (.slice a1 n1 c1) (.slice b1 m1 d1)
       have hS_n := hS.keep hKp
       have ht_n := ht.keep hKp
       have hna_n := hna.keep hKp
       have h1_n := h1.keep hKp
       have hnd_n := hnd.keep hKp
       have h2_n := h2.keep hKp
       have BB_n := below_store3 (R := R27) BB (by omega) (.bool p1) (.slice a1 n1 c1) (.slice b1 m1 d1)
       clear hKp
       obtain ⟨VD_0,VD_1,VD_2,VD_3,VD_4,VD_5⟩ := id VD
       go_simp
       clear VD_0 VD_1 VD_2 VD_3 VD_4 VD_5
       clear BB hS ht hna h1 hnd h2 VS VL VH VU VD
       generalize ((w12.setCell ⟨R27,0,none⟩ (.bool p1)).setCell ⟨R27,1,none⟩ (.slice a1 n1 c1)).setCell ⟨R27,2,none⟩ (.slice b1 m1 d1) = W28 at *
       have BB := BB_n
       have hS := hS_n
       have ht := ht_n
       have hna := hna_n
       have h1 := h1_n
       have hnd := hnd_n
       have h2 := h2_n
       have VS := VS_n
       have VL := VL_n
       have VH := VH_n
       have VU := VU_n
       have VD := VD_n
       clear BB_n hS_n ht_n hna_n h1_n hnd_n h2_n VS_n VL_n VH_n VU_n VD_n
       refine hK.out _ _ ?_ (fun hH7 => ?_)
       ·exact ⟨VS.1,VS.2.1,VS.2.2.1,VL.1,VL.2.1,VH.1,VH.2.1⟩
       clear hK K hH6
       (try simp only [Act.put,xL4,xL5,xL6])
       refine xR [11] (h := ?_)
       refine xN (h := fun K hK => ?_)
       have hKp := VU.keepJ (.bool p2) (.slice a2 n2 c2) (.slice b2 m2 d2)
       have VS_n := VS.other3 (R := R23) (by omega) (.bool p2) (.slice a2 n2 c2) (.slice b2 m2 d2)
       have VL_n := VL.other3 (R := R23) (by omega) (.bool p2) (.slice a2 n2 c2) (.slice b2 m2 d2)
       have VH_n := VH.other3 (R := R23) (by omega) (.bool p2) (.slice a2 n2 c2) (.slice b2 m2 d2)
       have VD_n := VD.other3 (R := R23) (by omega) (.bool p2) (.slice a2 n2 c2) (.slice b2 m2 d2)
       have VU_n := VU.same (.bool p2) (.slice a2 n2 c2) (.slice b2 m2 d2)
       have hS_n := hS.keep hKp
       have ht_n := ht.keep hKp
       have hna_n := hna.keep hKp
       have h1_n := h1.keep hKp
       have hnd_n := hnd.keep hKp
       have h2_n := h2.keep hKp
       have BB_n := below_store3 (R := R23) BB (by omega) (.bool p2) (.slice a2 n2 c2) (.slice b2 m2 d2)
       clear hKp
       obtain ⟨VU_0,VU_1,VU_2,VU_3,VU_4,VU_5⟩ := id VU
       go_simp
       clear VU_0 VU_1 VU_2 VU_3 VU_4 VU_5
       clear BB hS ht hna h1 hnd h2 VS VL VH VU VD
       generalize ((W28.setCell ⟨R23,0,none⟩ (.bool p2)).setCell ⟨R23,1,none⟩ (.slice a2 n2 c2)).setCell ⟨R23,2,none⟩ (.slice b2 m2 d2) = W29 at *
       have BB := BB_n
       have hS := hS_n
       have ht := ht_n
       have hna := hna_n
       have h1 := h1_n
       have hnd := hnd_n
       have h2 := h2_n
       have VS := VS_n
       have VL := VL_n
       have VH := VH_n
       have VU := VU_n
       have VD := VD_n
       clear BB_n hS_n ht_n hna_n h1_n hnd_n h2_n VS_n VL_n VH_n VU_n VD_n
       refine hK.out _ _ ?_ (fun hH8 => ?_)
       ·exact ⟨VS.1,VS.2.1,VS.2.2.1,VL.1,VL.2.1,VH.1,VH.2.1⟩
       clear hK K hH7
       (try simp only [Act.put,xL4,xL5,xL6])
       refine wpAnyH_done (by kernel_rfl) ?_ _
       clear hH8
       go_wp2_with fail
       go_meet
       exact ⟨R27,R23,p1,a1,n1,c1,b1,m1,d1,p2,a2,n2,c2,b2,m2,d2,rfl,rfl,VD,VU,h1,h2,BB⟩
      exact AllReadyH.nil
     exact AllReadyH.nil
    refine xC (h := fun K hK => ?_) (hs := ?_)
    ·
     go_simp
     have hZ30 : W6.heap.size ≤ w6.heap.size := BB.size
     have hN30VS : R2 ≠ w6.heap.size := Nat.ne_of_lt VS.lt
     have hN30VL : R3 ≠ w6.heap.size := Nat.ne_of_lt VL.lt
     have hN30VH : R3 + 1 ≠ w6.heap.size := Nat.ne_of_lt VH.lt
     obtain ⟨W30,hW30,hS30,hL30,VD⟩ := V3.lay w6 27 (.bool false) (.slice none 0 0) (.slice none 0 0)
     replace hS := hS.below hL30
     replace ht := ht.below hL30
     replace hna := hna.below hL30
     replace h1 := h1.below hL30
     replace VS := VS.below hL30
     replace VL := VL.below hL30
     replace VH := VH.below hL30
     replace BB := BB.trans (hL30.mono BB.size)
     clear hL30
     rw [← hW30]
     generalize w6.heap.size = R30 at *
     clear hW30 hS30
     refine hK.out _ _ ?_ (fun hH3 => ?_)
     ·exact ⟨VS.1,VS.2.1,VS.2.2.1,VL.1,VL.2.1,VH.1,VH.2.1⟩
     clear hK K hH2
     (try simp only [Act.put,xL4,xL5,xL6])
     refine xR [5,9] (h := ?_)
     refine xC (h := fun K hK => ?_) (hs := ?_)
     ·
      go_simp
      refine (number_at (D : Int) (E : Int) _ (by omega) (by omega) (by omega) (by omega) ht).mono ?_
      rintro e w13 ⟨nd,rfl,hnd,b13⟩
      rw [hqd] at hnd
      go_wp2_with fail
      replace hS := hS.below b13
      replace ht := ht.below b13
      replace hna := hna.below b13
      replace h1 := h1.below b13
      replace VS := VS.below b13
      replace VL := VL.below b13
      replace VH := VH.below b13
      replace VD := VD.below b13
      replace BB := BB.trans (b13.mono BB.size)
      clear b13
      refine hK.out _ _ ?_ (fun hH4 => ?_)
      ·exact ⟨VS.1,VS.2.1,VS.2.2.1,VL.1,VL.2.1,VH.1,VH.2.1⟩
      clear hK K hH3
      (try simp only [Act.put,xL4,xL5,xL6])
      refine xR [7,9] (h := ?_)
      refine xC (h := fun K hK => ?_) (hs := ?_)
      ·
       go_simp
       refine (qsub_at _ _ qd S (L + (L + 1) + 1) _ (hnd.at _ (by omega)) hS (by omega) (by omega) ht).mono ?_
       rintro e w14 ⟨v2,rfl,h2,b14⟩
       obtain ⟨p2,a2,n2,c2,b2,m2,d2,rfl⟩ := h2.open
       go_wp2_with fail
       replace hS := hS.below b14
       replace ht := ht.below b14
       replace hna := hna.below b14
       replace h1 := h1.below b14
       replace hnd := hnd.below b14
       replace VS := VS.below b14
       replace VL := VL.below b14
       replace VH := VH.below b14
       replace VD := VD.below b14
       replace BB := BB.trans (b14.mono BB.size)
       clear b14
       refine hK.out _ _ ?_ (fun hH5 => ?_)
       ·exact ⟨VS.1,VS.2.1,VS.2.2.1,VL.1,VL.2.1,VH.1,VH.2.1⟩
       clear hK K hH4
       (try simp only [Act.put,xL4,xL5,xL6])
       refine xR [9] (h := ?_)
       refine xN (h := fun K hK => ?_)
       go_simp
       have hZ31 : W6.heap.size ≤ w14.heap.size := BB.size
       have hN31VS : R2 ≠ w14.heap.size := Nat.ne_of_lt VS.lt
       have hN31VL : R3 ≠ w14.heap.size := Nat.ne_of_lt VL.lt
       have hN31VH : R3 + 1 ≠ w14.heap.size := Nat.ne_of_lt VH.lt
       have hN31VD : R30 ≠ w14.heap.size := Nat.ne_of_lt VD.lt
       obtain ⟨W31,hW31,hS31,hL31,VU⟩ := V3.lay w14 27 (.bool false) (.slice none 0 0) (.slice none 0 0)
       replace hS := hS.below hL31
       replace ht := ht.below hL31
       replace hna := hna.below hL31
       replace h1 := h1.below hL31
       replace hnd := hnd.below hL31
       replace h2 := h2.below hL31
       replace VS := VS.below hL31
       replace VL := VL.below hL31
       replace VH := VH.below hL31
       replace VD := VD.below hL31
       replace BB := BB.trans (hL31.mono BB.size)
       clear hL31
       rw [← hW31]
       generalize w14.heap.size = R31 at *
       clear hW31 hS31
       refine hK.out _ _ ?_ (fun hH6 => ?_)
       ·exact ⟨VS.1,VS.2.1,VS.2.2.1,VL.1,VL.2.1,VH.1,VH.2.1⟩
       clear hK K hH5
       (try simp only [Act.put,xL4,xL5,xL6])
       refine xR [10] (h := ?_)
       refine xN (h := fun K hK => ?_)
       have hKp := VD.keepJ (.bool p1) (.slice a1 n1 c1) (.slice b1 m1 d1)
       have VS_n := VS.other3 (R := R30) (by omega) (.bool p1) (.slice a1 n1 c1) (.slice b1 m1 d1)
       have VL_n := VL.other3 (R := R30) (by omega) (.bool p1) (.slice a1 n1 c1) (.slice b1 m1 d1)
       have VH_n := VH.other3 (R := R30) (by omega) (.bool p1) (.slice a1 n1 c1) (.slice b1 m1 d1)
       have VU_n := VU.other3 (R := R30) (by omega) (.bool p1) (.slice a1 n1 c1) (.slice b1 m1 d1)
       have VD_n := VD.same (.bool p1) (.slice a1 n1 c1) (.slice b1 m1 d1)
       have hS_n := hS.keep hKp
       have ht_n := ht.keep hKp
       have hna_n := hna.keep hKp
       have h1_n := h1.keep hKp
       have hnd_n := hnd.keep hKp
       have h2_n := h2.keep hKp
       have BB_n := below_store3 (R := R30) BB (by omega) (.bool p1) (.slice a1 n1 c1) (.slice b1 m1 d1)
       clear hKp
       obtain ⟨VD_0,VD_1,VD_2,VD_3,VD_4,VD_5⟩ := id VD
       go_simp
       clear VD_0 VD_1 VD_2 VD_3 VD_4 VD_5
       clear BB hS ht hna h1 hnd h2 VS VL VH VD VU
       generalize ((W31.setCell ⟨R30,0,none⟩ (.bool p1)).setCell ⟨R30,1,none⟩ (.slice a1 n1 c1)).setCell ⟨R30,2,none⟩ (.slice b1 m1 d1) = W32 at *
       have BB := BB_n
       have hS := hS_n
       have ht := ht_n
       have hna := hna_n
       have h1 := h1_n
       have hnd := hnd_n
       have h2 := h2_n
       have VS := VS_n
       have VL := VL_n
       have VH := VH_n
       have VD := VD_n
       have VU := VU_n
       clear BB_n hS_n ht_n hna_n h1_n hnd_n h2_n VS_n VL_n VH_n VD_n VU_n
       refine hK.out _ _ ?_ (fun hH7 => ?_)
       ·exact ⟨VS.1,VS.2.1,VS.2.2.1,VL.1,VL.2.1,VH.1,VH.2.1⟩
       clear hK K hH6
       (try simp only [Act.put,xL4,xL5,xL6])
       refine xR [11] (h := ?_)
       refine xN (h := fun K hK => ?_)
       have hKp := VU.keepJ (.bool p2) (.slice a2 n2 c2) (.slice b2 m2 d2)
       have VS_n := VS.other3 (R := R31) (by omega) (.bool p2) (.slice a2 n2 c2) (.slice b2 m2 d2)
       have VL_n := VL.other3 (R := R31) (by omega) (.bool p2) (.slice a2 n2 c2) (.slice b2 m2 d2)
       have VH_n := VH.other3 (R := R31) (by omega) (.bool p2) (.slice a2 n2 c2) (.slice b2 m2 d2)
       have VD_n := VD.other3 (R := R31) (by omega) (.bool p2) (.slice a2 n2 c2) (.slice b2 m2 d2)
       have VU_n := VU.same (.bool p2) (.slice a2 n2 c2) (.slice b2 m2 d2)
       have hS_n := hS.keep hKp
       have ht_n := ht.keep hKp
       have hna_n := hna.keep hKp
       have h1_n := h1.keep hKp
       have hnd_n := hnd.keep hKp
       have h2_n := h2.keep hKp
       have BB_n := below_store3 (R := R31) BB (by omega) (.bool p2) (.slice a2 n2 c2) (.slice b2 m2 d2)
       clear hKp
       obtain ⟨VU_0,VU_1,VU_2,VU_3,VU_4,VU_5⟩ := id VU
       go_simp
       clear VU_0 VU_1 VU_2 VU_3 VU_4 VU_5
       clear BB hS ht hna h1 hnd h2 VS VL VH VD VU
       generalize ((W32.setCell ⟨R31,0,none⟩ (.bool p2)).setCell ⟨R31,1,none⟩ (.slice a2 n2 c2)).setCell ⟨R31,2,none⟩ (.slice b2 m2 d2) = W33 at *
       have BB := BB_n
       have hS := hS_n
       have ht := ht_n
       have hna := hna_n
       have h1 := h1_n
       have hnd := hnd_n
       have h2 := h2_n
       have VS := VS_n
       have VL := VL_n
       have VH := VH_n
       have VD := VD_n
       have VU := VU_n
       clear BB_n hS_n ht_n hna_n h1_n hnd_n h2_n VS_n VL_n VH_n VD_n VU_n
       refine hK.out _ _ ?_ (fun hH8 => ?_)
       ·exact ⟨VS.1,VS.2.1,VS.2.2.1,VL.1,VL.2.1,VH.1,VH.2.1⟩
       clear hK K hH7
       (try simp only [Act.put,xL4,xL5,xL6])
       refine wpAnyH_done (by kernel_rfl) ?_ _
       clear hH8
       go_wp2_with fail
       go_meet
       exact ⟨R30,R31,p1,a1,n1,c1,b1,m1,d1,p2,a2,n2,c2,b2,m2,d2,rfl,rfl,VD,VU,h1,h2,BB⟩
      refine xC (h := fun K hK => ?_) (hs := ?_)
      ·
       go_simp
       have hZ34 : W6.heap.size ≤ w13.heap.size := BB.size
       have hN34VS : R2 ≠ w13.heap.size := Nat.ne_of_lt VS.lt
       have hN34VL : R3 ≠ w13.heap.size := Nat.ne_of_lt VL.lt
       have hN34VH : R3 + 1 ≠ w13.heap.size := Nat.ne_of_lt VH.lt
       have hN34VD : R30 ≠ w13.heap.size := Nat.ne_of_lt VD.lt
       obtain ⟨W34,hW34,hS34,hL34,VU⟩ := V3.lay w13 27 (.bool false) (.slice none 0 0) (.slice none 0 0)
       replace hS := hS.below hL34
       replace ht := ht.below hL34
       replace hna := hna.below hL34
       replace h1 := h1.below hL34
       replace hnd := hnd.below hL34
       replace VS := VS.below hL34
       replace VL := VL.below hL34
       replace VH := VH.below hL34
       replace VD := VD.below hL34
       replace BB := BB.trans (hL34.mono BB.size)
       clear hL34
       rw [← hW34]
       generalize w13.heap.size = R34 at *
       clear hW34 hS34
       refine hK.out _ _ ?_ (fun hH5 => ?_)
       ·exact ⟨VS.1,VS.2.1,VS.2.2.1,VL.1,VL.2.1,VH.1,VH.2.1⟩
       clear hK K hH4
       (try simp only [Act.put,xL4,xL5,xL6])
       refine xR [7] (h := ?_)
       refine xN (h := fun K hK => ?_)
       go_simp
       refine (qsub_at _ _ qd S (L + (L + 1) + 1) _ (hnd.at _ (by omega)) hS (by omega) (by omega) ht).mono ?_
       rintro e w15 ⟨v2,rfl,h2,b15⟩
       obtain ⟨p2,a2,n2,c2,b2,m2,d2,rfl⟩ := h2.open
       go_wp2_with fail
       replace hS := hS.below b15
       replace ht := ht.below b15
       replace hna := hna.below b15
       replace h1 := h1.below b15
       replace hnd := hnd.below b15
       replace VS := VS.below b15
       replace VL := VL.below b15
       replace VH := VH.below b15
       replace VD := VD.below b15
       replace VU := VU.below b15
       replace BB := BB.trans (b15.mono BB.size)
       clear b15
       refine hK.out _ _ ?_ (fun hH6 => ?_)
       ·exact ⟨VS.1,VS.2.1,VS.2.2.1,VL.1,VL.2.1,VH.1,VH.2.1⟩
       clear hK K hH5
       (try simp only [Act.put,xL4,xL5,xL6])
       refine xR [10] (h := ?_)
       refine xN (h := fun K hK => ?_)
       have hKp := VD.keepJ (.bool p1) (.slice a1 n1 c1) (.slice b1 m1 d1)
       have VS_n := VS.other3 (R := R30) (by omega) (.bool p1) (.slice a1 n1 c1) (.slice b1 m1 d1)
       have VL_n := VL.other3 (R := R30) (by omega) (.bool p1) (.slice a1 n1 c1) (.slice b1 m1 d1)
       have VH_n := VH.other3 (R := R30) (by omega) (.bool p1) (.slice a1 n1 c1) (.slice b1 m1 d1)
       have VU_n := VU.other3 (R := R30) (by omega) (.bool p1) (.slice a1 n1 c1) (.slice b1 m1 d1)
       have VD_n := VD.same (.bool p1) (.slice a1 n1 c1) (.slice b1 m1 d1)
       have hS_n := hS.keep hKp
       have ht_n := ht.keep hKp
       have hna_n := hna.keep hKp
       have h1_n := h1.keep hKp
       have hnd_n := hnd.keep hKp
       have h2_n := h2.keep hKp
       have BB_n := below_store3 (R := R30) BB (by omega) (.bool p1) (.slice a1 n1 c1) (.slice b1 m1 d1)
       clear hKp
       obtain ⟨VD_0,VD_1,VD_2,VD_3,VD_4,VD_5⟩ := id VD
       go_simp
       clear VD_0 VD_1 VD_2 VD_3 VD_4 VD_5
       clear BB hS ht hna h1 hnd h2 VS VL VH VD VU
       generalize ((w15.setCell ⟨R30,0,none⟩ (.bool p1)).setCell ⟨R30,1,none⟩ (.slice a1 n1 c1)).setCell ⟨R30,2,none⟩ (.slice b1 m1 d1) = W35 at *
       have BB := BB_n
       have hS := hS_n
       have ht := ht_n
       have hna := hna_n
       have h1 := h1_n
       have hnd := hnd_n
       have h2 := h2_n
       have VS := VS_n
       have VL := VL_n
       have VH := VH_n
       have VD := VD_n
       have VU := VU_n
       clear BB_n hS_n ht_n hna_n h1_n hnd_n h2_n VS_n VL_n VH_n VD_n VU_n
       refine hK.out _ _ ?_ (fun hH7 => ?_)
       ·exact ⟨VS.1,VS.2.1,VS.2.2.1,VL.1,VL.2.1,VH.1,VH.2.1⟩
       clear hK K hH6
       (try simp only [Act.put,xL4,xL5,xL6])
       refine xR [11] (h := ?_)
       refine xN (h := fun K hK => ?_)
       have hKp := VU.keepJ (.bool p2) (.slice a2 n2 c2) (.slice b2 m2 d2)
       have VS_n := VS.other3 (R := R34) (by omega) (.bool p2) (.slice a2 n2 c2) (.slice b2 m2 d2)
       have VL_n := VL.other3 (R := R34) (by omega) (.bool p2) (.slice a2 n2 c2) (.slice b2 m2 d2)
       have VH_n := VH.other3 (R := R34) (by omega) (.bool p2) (.slice a2 n2 c2) (.slice b2 m2 d2)
       have VD_n := VD.other3 (R := R34) (by omega) (.bool p2) (.slice a2 n2 c2) (.slice b2 m2 d2)
       have VU_n := VU.same (.bool p2) (.slice a2 n2 c2) (.slice b2 m2 d2)
       have hS_n := hS.keep hKp
       have ht_n := ht.keep hKp
       have hna_n := hna.keep hKp
       have h1_n := h1.keep hKp
       have hnd_n := hnd.keep hKp
       have h2_n := h2.keep hKp
       have BB_n := below_store3 (R := R34) BB (by omega) (.bool p2) (.slice a2 n2 c2) (.slice b2 m2 d2)
       clear hKp
       obtain ⟨VU_0,VU_1,VU_2,VU_3,VU_4,VU_5⟩ := id VU
       go_simp
       clear VU_0 VU_1 VU_2 VU_3 VU_4 VU_5
       clear BB hS ht hna h1 hnd h2 VS VL VH VD VU
       generalize ((W35.setCell ⟨R34,0,none⟩ (.bool p2)).setCell ⟨R34,1,none⟩ (.slice a2 n2 c2)).setCell ⟨R34,2,none⟩ (.slice b2 m2 d2) = W36 at *
       have BB := BB_n
       have hS := hS_n
       have ht := ht_n
       have hna := hna_n
       have h1 := h1_n
       have hnd := hnd_n
       have h2 := h2_n
       have VS := VS_n
       have VL := VL_n
       have VH := VH_n
       have VD := VD_n
       have VU := VU_n
       clear BB_n hS_n ht_n hna_n h1_n hnd_n h2_n VS_n VL_n VH_n VD_n VU_n
       refine hK.out _ _ ?_ (fun hH8 => ?_)
       ·exact ⟨VS.1,VS.2.1,VS.2.2.1,VL.1,VL.2.1,VH.1,VH.2.1⟩
       clear hK K hH7
       (try simp only [Act.put,xL4,xL5,xL6])
       refine wpAnyH_done (by kernel_rfl) ?_ _
       clear hH8
       go_wp2_with fail
       go_meet
       exact ⟨R30,R34,p1,a1,n1,c1,b1,m1,d1,p2,a2,n2,c2,b2,m2,d2,rfl,rfl,VD,VU,h1,h2,BB⟩
      exact AllReadyH.nil
     refine xC (h := fun K hK => ?_) (hs := ?_)
     ·
      go_simp
      have hZ37 : W6.heap.size ≤ W30.heap.size := BB.size
      have hN37VS : R2 ≠ W30.heap.size := Nat.ne_of_lt VS.lt
      have hN37VL : R3 ≠ W30.heap.size := Nat.ne_of_lt VL.lt
      have hN37VH : R3 + 1 ≠ W30.heap.size := Nat.ne_of_lt VH.lt
      have hN37VD : R30 ≠ W30.heap.size := Nat.ne_of_lt VD.lt
      obtain ⟨W37,hW37,hS37,hL37,VU⟩ := V3.lay W30 27 (.bool false) (.slice none 0 0) (.slice none 0 0)
      replace hS := hS.below hL37
      replace ht := ht.below hL37
      replace hna := hna.below hL37
      replace h1 := h1.below hL37
      replace VS := VS.below hL37
      replace VL := VL.below hL37
      replace VH := VH.below hL37
      replace VD := VD.below hL37
      replace BB := BB.trans (hL37.mono BB.size)
      clear hL37
      rw [← hW37]
      generalize W30.heap.size = R37 at *
      clear hW37 hS37
      refine hK.out _ _ ?_ (fun hH4 => ?_)
      ·exact ⟨VS.1,VS.2.1,VS.2.2.1,VL.1,VL.2.1,VH.1,VH.2.1⟩
      clear hK K hH3
      (try simp only [Act.put,xL4,xL5,xL6])
      refine xR [5] (h := ?_)
      refine xN (h := fun K hK => ?_)
      go_simp
      refine (number_at (D : Int) (E : Int) _ (by omega) (by omega) (by omega) (by omega) ht).mono ?_
      rintro e w16 ⟨nd,rfl,hnd,b16⟩
      rw [hqd] at hnd
      go_wp2_with fail
      replace hS := hS.below b16
      replace ht := ht.below b16
      replace hna := hna.below b16
      replace h1 := h1.below b16
      replace VS := VS.below b16
      replace VL := VL.below b16
      replace VH := VH.below b16
      replace VD := VD.below b16
      replace VU := VU.below b16
      replace BB := BB.trans (b16.mono BB.size)
      clear b16
      refine hK.out _ _ ?_ (fun hH5 => ?_)
      ·exact ⟨VS.1,VS.2.1,VS.2.2.1,VL.1,VL.2.1,VH.1,VH.2.1⟩
      clear hK K hH4
      (try simp only [Act.put,xL4,xL5,xL6])
      refine xR [7] (h := ?_)
      refine xN (h := fun K hK => ?_)
      go_simp
      refine (qsub_at _ _ qd S (L + (L + 1) + 1) _ (hnd.at _ (by omega)) hS (by omega) (by omega) ht).mono ?_
      rintro e w17 ⟨v2,rfl,h2,b17⟩
      obtain ⟨p2,a2,n2,c2,b2,m2,d2,rfl⟩ := h2.open
      go_wp2_with fail
      replace hS := hS.below b17
      replace ht := ht.below b17
      replace hna := hna.below b17
      replace h1 := h1.below b17
      replace hnd := hnd.below b17
      replace VS := VS.below b17
      replace VL := VL.below b17
      replace VH := VH.below b17
      replace VD := VD.below b17
      replace VU := VU.below b17
      replace BB := BB.trans (b17.mono BB.size)
      clear b17
      refine hK.out _ _ ?_ (fun hH6 => ?_)
      ·exact ⟨VS.1,VS.2.1,VS.2.2.1,VL.1,VL.2.1,VH.1,VH.2.1⟩
      clear hK K hH5
      (try simp only [Act.put,xL4,xL5,xL6])
      refine xR [10] (h := ?_)
      refine xN (h := fun K hK => ?_)
      have hKp := VD.keepJ (.bool p1) (.slice a1 n1 c1) (.slice b1 m1 d1)
      have VS_n := VS.other3 (R := R30) (by omega) (.bool p1) (.slice a1 n1 c1) (.slice b1 m1 d1)
      have VL_n := VL.other3 (R := R30) (by omega) (.bool p1) (.slice a1 n1 c1) (.slice b1 m1 d1)
      have VH_n := VH.other3 (R := R30) (by omega) (.bool p1) (.slice a1 n1 c1) (.slice b1 m1 d1)
      have VU_n := VU.other3 (R := R30) (by omega) (.bool p1) (.slice a1 n1 c1) (.slice b1 m1 d1)
      have VD_n := VD.same (.bool p1) (.slice a1 n1 c1) (.slice b1 m1 d1)
      have hS_n := hS.keep hKp
      have ht_n := ht.keep hKp
      have hna_n := hna.keep hKp
      have h1_n := h1.keep hKp
      have hnd_n := hnd.keep hKp
      have h2_n := h2.keep hKp
      have BB_n := below_store3 (R := R30) BB (by omega) (.bool p1) (.slice a1 n1 c1) (.slice b1 m1 d1)
      clear hKp
      obtain ⟨VD_0,VD_1,VD_2,VD_3,VD_4,VD_5⟩ := id VD
      go_simp
      clear VD_0 VD_1 VD_2 VD_3 VD_4 VD_5
      clear BB hS ht hna h1 hnd h2 VS VL VH VD VU
      generalize ((w17.setCell ⟨R30,0,none⟩ (.bool p1)).setCell ⟨R30,1,none⟩ (.slice a1 n1 c1)).setCell ⟨R30,2,none⟩ (.slice b1 m1 d1) = W38 at *
      have BB := BB_n
      have hS := hS_n
      have ht := ht_n
      have hna := hna_n
      have h1 := h1_n
      have hnd := hnd_n
      have h2 := h2_n
      have VS := VS_n
      have VL := VL_n
      have VH := VH_n
      have VD := VD_n
      have VU := VU_n
      clear BB_n hS_n ht_n hna_n h1_n hnd_n h2_n VS_n VL_n VH_n VD_n VU_n
      refine hK.out _ _ ?_ (fun hH7 => ?_)
      ·exact ⟨VS.1,VS.2.1,VS.2.2.1,VL.1,VL.2.1,VH.1,VH.2.1⟩
      clear hK K hH6
      (try simp only [Act.put,xL4,xL5,xL6])
      refine xR [11] (h := ?_)
      refine xN (h := fun K hK => ?_)
      have hKp := VU.keepJ (.bool p2) (.slice a2 n2 c2) (.slice b2 m2 d2)
      have VS_n := VS.other3 (R := R37) (by omega) (.bool p2) (.slice a2 n2 c2) (.slice b2 m2 d2)
      have VL_n := VL.other3 (R := R37) (by omega) (.bool p2) (.slice a2 n2 c2) (.slice b2 m2 d2)
      have VH_n := VH.other3 (R := R37) (by omega) (.bool p2) (.slice a2 n2 c2) (.slice b2 m2 d2)
      have VD_n := VD.other3 (R := R37) (by omega) (.bool p2) (.slice a2 n2 c2) (.slice b2 m2 d2)
      have VU_n := VU.same (.bool p2) (.slice a2 n2 c2) (.slice b2 m2 d2)
      have hS_n := hS.keep hKp
      have ht_n := ht.keep hKp
      have hna_n := hna.keep hKp
      have h1_n := h1.keep hKp
      have hnd_n := hnd.keep hKp
      have h2_n := h2.keep hKp
      have BB_n := below_store3 (R := R37) BB (by omega) (.bool p2) (.slice a2 n2 c2) (.slice b2 m2 d2)
      clear hKp
      obtain ⟨VU_0,VU_1,VU_2,VU_3,VU_4,VU_5⟩ := id VU
      go_simp
      clear VU_0 VU_1 VU_2 VU_3 VU_4 VU_5
      clear BB hS ht hna h1 hnd h2 VS VL VH VD VU
      generalize ((W38.setCell ⟨R37,0,none⟩ (.bool p2)).setCell ⟨R37,1,none⟩ (.slice a2 n2 c2)).setCell ⟨R37,2,none⟩ (.slice b2 m2 d2) = W39 at *
      have BB := BB_n
      have hS := hS_n
      have ht := ht_n
      have hna := hna_n
      have h1 := h1_n
      have hnd := hnd_n
      have h2 := h2_n
      have VS := VS_n
      have VL := VL_n
      have VH := VH_n
      have VD := VD_n
      have VU := VU_n
      clear BB_n hS_n ht_n hna_n h1_n hnd_n h2_n VS_n VL_n VH_n VD_n VU_n
      refine hK.out _ _ ?_ (fun hH8 => ?_)
      ·exact ⟨VS.1,VS.2.1,VS.2.2.1,VL.1,VL.2.1,VH.1,VH.2.1⟩
      clear hK K hH7
      (try simp only [Act.put,xL4,xL5,xL6])
      refine wpAnyH_done (by kernel_rfl) ?_ _
      clear hH8
      go_wp2_with fail
      go_meet
      exact ⟨R30,R37,p1,a1,n1,c1,b1,m1,d1,p2,a2,n2,c2,b2,m2,d2,rfl,rfl,VD,VU,h1,h2,BB⟩
     exact AllReadyH.nil
    refine xC (h := fun K hK => ?_) (hs := ?_)
    ·
     go_simp
     have hZ40 : W6.heap.size ≤ w6.heap.size := BB.size
     have hN40VS : R2 ≠ w6.heap.size := Nat.ne_of_lt VS.lt
     have hN40VL : R3 ≠ w6.heap.size := Nat.ne_of_lt VL.lt
     have hN40VH : R3 + 1 ≠ w6.heap.size := Nat.ne_of_lt VH.lt
     obtain ⟨W40,hW40,hS40,hL40,VU⟩ := V3.lay w6 27 (.bool false) (.slice none 0 0) (.slice none 0 0)
     replace hS := hS.below hL40
     replace ht := ht.below hL40
     replace hna := hna.below hL40
     replace h1 := h1.below hL40
     replace VS := VS.below hL40
     replace VL := VL.below hL40
     replace VH := VH.below hL40
     replace BB := BB.trans (hL40.mono BB.size)
     clear hL40
     rw [← hW40]
     generalize w6.heap.size = R40 at *
     clear hW40 hS40
     refine hK.out _ _ ?_ (fun hH3 => ?_)
     ·exact ⟨VS.1,VS.2.1,VS.2.2.1,VL.1,VL.2.1,VH.1,VH.2.1⟩
     clear hK K hH2
     (try simp only [Act.put,xL4,xL5,xL6])
     refine xR [5,8] (h := ?_)
     refine xC (h := fun K hK => ?_) (hs := ?_)
     ·
      go_simp
      refine (number_at (D : Int) (E : Int) _ (by omega) (by omega) (by omega) (by omega) ht).mono ?_
      rintro e w18 ⟨nd,rfl,hnd,b18⟩
      rw [hqd] at hnd
      go_wp2_with fail
      replace hS := hS.below b18
      replace ht := ht.below b18
      replace hna := hna.below b18
      replace h1 := h1.below b18
      replace VS := VS.below b18
      replace VL := VL.below b18
      replace VH := VH.below b18
      replace VU := VU.below b18
      replace BB := BB.trans (b18.mono BB.size)
      clear b18
      refine hK.out _ _ ?_ (fun hH4 => ?_)
      ·exact ⟨VS.1,VS.2.1,VS.2.2.1,VL.1,VL.2.1,VH.1,VH.2.1⟩
      clear hK K hH3
      (try simp only [Act.put,xL4,xL5,xL6])
      refine xR [7,8] (h := ?_)
      refine xC (h := fun K hK => ?_) (hs := ?_)
      ·
       go_simp
       refine (qsub_at _ _ qd S (L + (L + 1) + 1) _ (hnd.at _ (by omega)) hS (by omega) (by omega) ht).mono ?_
       rintro e w19 ⟨v2,rfl,h2,b19⟩
       obtain ⟨p2,a2,n2,c2,b2,m2,d2,rfl⟩ := h2.open
       go_wp2_with fail
       replace hS := hS.below b19
       replace ht := ht.below b19
       replace hna := hna.below b19
       replace h1 := h1.below b19
       replace hnd := hnd.below b19
       replace VS := VS.below b19
       replace VL := VL.below b19
       replace VH := VH.below b19
       replace VU := VU.below b19
       replace BB := BB.trans (b19.mono BB.size)
       clear b19
       refine hK.out _ _ ?_ (fun hH5 => ?_)
       ·exact ⟨VS.1,VS.2.1,VS.2.2.1,VL.1,VL.2.1,VH.1,VH.2.1⟩
       clear hK K hH4
       (try simp only [Act.put,xL4,xL5,xL6])
       refine xR [8] (h := ?_)
       refine xN (h := fun K hK => ?_)
       go_simp
       have hZ41 : W6.heap.size ≤ w19.heap.size := BB.size
       have hN41VS : R2 ≠ w19.heap.size := Nat.ne_of_lt VS.lt
       have hN41VL : R3 ≠ w19.heap.size := Nat.ne_of_lt VL.lt
       have hN41VH : R3 + 1 ≠ w19.heap.size := Nat.ne_of_lt VH.lt
       have hN41VU : R40 ≠ w19.heap.size := Nat.ne_of_lt VU.lt
       obtain ⟨W41,hW41,hS41,hL41,VD⟩ := V3.lay w19 27 (.bool false) (.slice none 0 0) (.slice none 0 0)
       replace hS := hS.below hL41
       replace ht := ht.below hL41
       replace hna := hna.below hL41
       replace h1 := h1.below hL41
       replace hnd := hnd.below hL41
       replace h2 := h2.below hL41
       replace VS := VS.below hL41
       replace VL := VL.below hL41
       replace VH := VH.below hL41
       replace VU := VU.below hL41
       replace BB := BB.trans (hL41.mono BB.size)
       clear hL41
       rw [← hW41]
       generalize w19.heap.size = R41 at *
       clear hW41 hS41
       refine hK.out _ _ ?_ (fun hH6 => ?_)
       ·exact ⟨VS.1,VS.2.1,VS.2.2.1,VL.1,VL.2.1,VH.1,VH.2.1⟩
       clear hK K hH5
       (try simp only [Act.put,xL4,xL5,xL6])
       refine xR [10] (h := ?_)
       refine xN (h := fun K hK => ?_)
       have hKp := VD.keepJ (.bool p1) (.slice a1 n1 c1) (.slice b1 m1 d1)
       have VS_n := VS.other3 (R := R41) (by omega) (.bool p1) (.slice a1 n1 c1) (.slice b1 m1 d1)
       have VL_n := VL.other3 (R := R41) (by omega) (.bool p1) (.slice a1 n1 c1) (.slice b1 m1 d1)
       have VH_n := VH.other3 (R := R41) (by omega) (.bool p1) (.slice a1 n1 c1) (.slice b1 m1 d1)
       have VU_n := VU.other3 (R := R41) (by omega) (.bool p1) (.slice a1 n1 c1) (.slice b1 m1 d1)
       have VD_n := VD.same (.bool p1) (.slice a1 n1 c1) (.slice b1 m1 d1)
       have hS_n := hS.keep hKp
       have ht_n := ht.keep hKp
       have hna_n := hna.keep hKp
       have h1_n := h1.keep hKp
       have hnd_n := hnd.keep hKp
       have h2_n := h2.keep hKp
       have BB_n := below_store3 (R := R41) BB (by omega) (.bool p1) (.slice a1 n1 c1) (.slice b1 m1 d1)
       clear hKp
       obtain ⟨VD_0,VD_1,VD_2,VD_3,VD_4,VD_5⟩ := id VD
       go_simp
       clear VD_0 VD_1 VD_2 VD_3 VD_4 VD_5
       clear BB hS ht hna h1 hnd h2 VS VL VH VU VD
       generalize ((W41.setCell ⟨R41,0,none⟩ (.bool p1)).setCell ⟨R41,1,none⟩ (.slice a1 n1 c1)).setCell ⟨R41,2,none⟩ (.slice b1 m1 d1) = W42 at *
       have BB := BB_n
       have hS := hS_n
       have ht := ht_n
       have hna := hna_n
       have h1 := h1_n
       have hnd := hnd_n
       have h2 := h2_n
       have VS := VS_n
       have VL := VL_n
       have VH := VH_n
       have VU := VU_n
       have VD := VD_n
       clear BB_n hS_n ht_n hna_n h1_n hnd_n h2_n VS_n VL_n VH_n VU_n VD_n
       refine hK.out _ _ ?_ (fun hH7 => ?_)
       ·exact ⟨VS.1,VS.2.1,VS.2.2.1,VL.1,VL.2.1,VH.1,VH.2.1⟩
       clear hK K hH6
       (try simp only [Act.put,xL4,xL5,xL6])
       refine xR [11] (h := ?_)
       refine xN (h := fun K hK => ?_)
       have hKp := VU.keepJ (.bool p2) (.slice a2 n2 c2) (.slice b2 m2 d2)
       have VS_n := VS.other3 (R := R40) (by omega) (.bool p2) (.slice a2 n2 c2) (.slice b2 m2 d2)
       have VL_n := VL.other3 (R := R40) (by omega) (.bool p2) (.slice a2 n2 c2) (.slice b2 m2 d2)
       have VH_n := VH.other3 (R := R40) (by omega) (.bool p2) (.slice a2 n2 c2) (.slice b2 m2 d2)
       have VD_n := VD.other3 (R := R40) (by omega) (.bool p2) (.slice a2 n2 c2) (.slice b2 m2 d2)
       have VU_n := VU.same (.bool p2) (.slice a2 n2 c2) (.slice b2 m2 d2)
       have hS_n := hS.keep hKp
       have ht_n := ht.keep hKp
       have hna_n := hna.keep hKp
       have h1_n := h1.keep hKp
       have hnd_n := hnd.keep hKp
       have h2_n := h2.keep hKp
       have BB_n := below_store3 (R := R40) BB (by omega) (.bool p2) (.slice a2 n2 c2) (.slice b2 m2 d2)
       clear hKp
       obtain ⟨VU_0,VU_1,VU_2,VU_3,VU_4,VU_5⟩ := id VU
       go_simp
       clear VU_0 VU_1 VU_2 VU_3 VU_4 VU_5
       clear BB hS ht hna h1 hnd h2 VS VL VH VU VD
       generalize ((W42.setCell ⟨R40,0,none⟩ (.bool p2)).setCell ⟨R40,1,none⟩ (.slice a2 n2 c2)).setCell ⟨R40,2,none⟩ (.slice b2 m2 d2) = W43 at *
       have BB := BB_n
       have hS := hS_n
       have ht := ht_n
       have hna := hna_n
       have h1 := h1_n
       have hnd := hnd_n
       have h2 := h2_n
       have VS := VS_n
       have VL := VL_n
       have VH := VH_n
       have VU := VU_n
       have VD := VD_n
       clear BB_n hS_n ht_n hna_n h1_n hnd_n h2_n VS_n VL_n VH_n VU_n VD_n
       refine hK.out _ _ ?_ (fun hH8 => ?_)
       ·exact ⟨VS.1,VS.2.1,VS.2.2.1,VL.1,VL.2.1,VH.1,VH.2.1⟩
       clear hK K hH7
       (try simp only [Act.put,xL4,xL5,xL6])
       refine wpAnyH_done (by kernel_rfl) ?_ _
       clear hH8
       go_wp2_with fail
       go_meet
       exact ⟨R41,R40,p1,a1,n1,c1,b1,m1,d1,p2,a2,n2,c2,b2,m2,d2,rfl,rfl,VD,VU,h1,h2,BB⟩
      refine xC (h := fun K hK => ?_) (hs := ?_)
      ·
       go_simp
       have hZ44 : W6.heap.size ≤ w18.heap.size := BB.size
       have hN44VS : R2 ≠ w18.heap.size := Nat.ne_of_lt VS.lt
       have hN44VL : R3 ≠ w18.heap.size := Nat.ne_of_lt VL.lt
       have hN44VH : R3 + 1 ≠ w18.heap.size := Nat.ne_of_lt VH.lt
       have hN44VU : R40 ≠ w18.heap.size := Nat.ne_of_lt VU.lt
       obtain ⟨W44,hW44,hS44,hL44,VD⟩ := V3.lay w18 27 (.bool false) (.slice none 0 0) (.slice none 0 0)
       replace hS := hS.below hL44
       replace ht := ht.below hL44
       replace hna := hna.below hL44
       replace h1 := h1.below hL44
       replace hnd := hnd.below hL44
       replace VS := VS.below hL44
       replace VL := VL.below hL44
       replace VH := VH.below hL44
       replace VU := VU.below hL44
       replace BB := BB.trans (hL44.mono BB.size)
       clear hL44
       rw [← hW44]
       generalize w18.heap.size = R44 at *
       clear hW44 hS44
       refine hK.out _ _ ?_ (fun hH5 => ?_)
       ·exact ⟨VS.1,VS.2.1,VS.2.2.1,VL.1,VL.2.1,VH.1,VH.2.1⟩
       clear hK K hH4
       (try simp only [Act.put,xL4,xL5,xL6])
       refine xR [7] (h := ?_)
       refine xN (h := fun K hK => ?_)
       go_simp
       refine (qsub_at _ _ qd S (L + (L + 1) + 1) _ (hnd.at _ (by omega)) hS (by omega) (by omega) ht).mono ?_
       rintro e w20 ⟨v2,rfl,h2,b20⟩
       obtain ⟨p2,a2,n2,c2,b2,m2,d2,rfl⟩ := h2.open
       go_wp2_with fail
       replace hS := hS.below b20
       replace ht := ht.below b20
       replace hna := hna.below b20
       replace h1 := h1.below b20
       replace hnd := hnd.below b20
       replace VS := VS.below b20
       replace VL := VL.below b20
       replace VH := VH.below b20
       replace VU := VU.below b20
       replace VD := VD.below b20
       replace BB := BB.trans (b20.mono BB.size)
       clear b20
       refine hK.out _ _ ?_ (fun hH6 => ?_)
       ·exact ⟨VS.1,VS.2.1,VS.2.2.1,VL.1,VL.2.1,VH.1,VH.2.1⟩
       clear hK K hH5
       (try simp only [Act.put,xL4,xL5,xL6])
       refine xR [10] (h := ?_)
       refine xN (h := fun K hK => ?_)
       have hKp := VD.keepJ (.bool p1) (.slice a1 n1 c1) (.slice b1 m1 d1)
       have VS_n := VS.other3 (R := R44) (by omega) (.bool p1) (.slice a1 n1 c1) (.slice b1 m1 d1)
       have VL_n := VL.other3 (R := R44) (by omega) (.bool p1) (.slice a1 n1 c1) (.slice b1 m1 d1)
       have VH_n := VH.other3 (R := R44) (by omega) (.bool p1) (.slice a1 n1 c1) (.slice b1 m1 d1)
       have VU_n := VU.other3 (R := R44) (by omega) (.bool p1) (.slice a1 n1 c1) (.slice b1 m1 d1)
       have VD_n := VD.same (.bool p1) (.slice a1 n1 c1) (.slice b1 m1 d1)
       have hS_n := hS.keep hKp
       have ht_n := ht.keep hKp
       have hna_n := hna.keep hKp
       have h1_n := h1.keep hKp
       have hnd_n := hnd.keep hKp
       have h2_n := h2.keep hKp
       have BB_n := below_store3 (R := R44) BB (by omega) (.bool p1) (.slice a1 n1 c1) (.slice b1 m1 d1)
       clear hKp
       obtain ⟨VD_0,VD_1,VD_2,VD_3,VD_4,VD_5⟩ := id VD
       go_simp
       clear VD_0 VD_1 VD_2 VD_3 VD_4 VD_5
       clear BB hS ht hna h1 hnd h2 VS VL VH VU VD
       generalize ((w20.setCell ⟨R44,0,none⟩ (.bool p1)).setCell ⟨R44,1,none⟩ (.slice a1 n1 c1)).setCell ⟨R44,2,none⟩ (.slice b1 m1 d1) = W45 at *
       have BB := BB_n
       have hS := hS_n
       have ht := ht_n
       have hna := hna_n
       have h1 := h1_n
       have hnd := hnd_n
       have h2 := h2_n
       have VS := VS_n
       have VL := VL_n
       have VH := VH_n
       have VU := VU_n
       have VD := VD_n
       clear BB_n hS_n ht_n hna_n h1_n hnd_n h2_n VS_n VL_n VH_n VU_n VD_n
       refine hK.out _ _ ?_ (fun hH7 => ?_)
       ·exact ⟨VS.1,VS.2.1,VS.2.2.1,VL.1,VL.2.1,VH.1,VH.2.1⟩
       clear hK K hH6
       (try simp only [Act.put,xL4,xL5,xL6])
       refine xR [11] (h := ?_)
       refine xN (h := fun K hK => ?_)
       have hKp := VU.keepJ (.bool p2) (.slice a2 n2 c2) (.slice b2 m2 d2)
       have VS_n := VS.other3 (R := R40) (by omega) (.bool p2) (.slice a2 n2 c2) (.slice b2 m2 d2)
       have VL_n := VL.other3 (R := R40) (by omega) (.bool p2) (.slice a2 n2 c2) (.slice b2 m2 d2)
       have VH_n := VH.other3 (R := R40) (by omega) (.bool p2) (.slice a2 n2 c2) (.slice b2 m2 d2)
       have VD_n := VD.other3 (R := R40) (by omega) (.bool p2) (.slice a2 n2 c2) (.slice b2 m2 d2)
       have VU_n := VU.same (.bool p2) (.slice a2 n2 c2) (.slice b2 m2 d2)
       have hS_n := hS.keep hKp
       have ht_n := ht.keep hKp
       have hna_n := hna.keep hKp
       have h1_n := h1.keep hKp
       have hnd_n := hnd.keep hKp
       have h2_n := h2.keep hKp
       have BB_n := below_store3 (R := R40) BB (by omega) (.bool p2) (.slice a2 n2 c2) (.slice b2 m2 d2)
       clear hKp
       obtain ⟨VU_0,VU_1,VU_2,VU_3,VU_4,VU_5⟩ := id VU
       go_simp
       clear VU_0 VU_1 VU_2 VU_3 VU_4 VU_5
       clear BB hS ht hna h1 hnd h2 VS VL VH VU VD
       generalize ((W45.setCell ⟨R40,0,none⟩ (.bool p2)).setCell ⟨R40,1,none⟩ (.slice a2 n2 c2)).setCell ⟨R40,2,none⟩ (.slice b2 m2 d2) = W46 at *
       have BB := BB_n
       have hS := hS_n
       have ht := ht_n
       have hna := hna_n
       have h1 := h1_n
       have hnd := hnd_n
       have h2 := h2_n
       have VS := VS_n
       have VL := VL_n
       have VH := VH_n
       have VU := VU_n
       have VD := VD_n
       clear BB_n hS_n ht_n hna_n h1_n hnd_n h2_n VS_n VL_n VH_n VU_n VD_n
       refine hK.out _ _ ?_ (fun hH8 => ?_)
       ·exact ⟨VS.1,VS.2.1,VS.2.2.1,VL.1,VL.2.1,VH.1,VH.2.1⟩
       clear hK K hH7
       (try simp only [Act.put,xL4,xL5,xL6])
       refine wpAnyH_done (by kernel_rfl) ?_ _
       clear hH8
       go_wp2_with fail
       go_meet
       exact ⟨R44,R40,p1,a1,n1,c1,b1,m1,d1,p2,a2,n2,c2,b2,m2,d2,rfl,rfl,VD,VU,h1,h2,BB⟩
      exact AllReadyH.nil
     refine xC (h := fun K hK => ?_) (hs := ?_)
     ·
      go_simp
      have hZ47 : W6.heap.size ≤ W40.heap.size := BB.size
      have hN47VS : R2 ≠ W40.heap.size := Nat.ne_of_lt VS.lt
      have hN47VL : R3 ≠ W40.heap.size := Nat.ne_of_lt VL.lt
      have hN47VH : R3 + 1 ≠ W40.heap.size := Nat.ne_of_lt VH.lt
      have hN47VU : R40 ≠ W40.heap.size := Nat.ne_of_lt VU.lt
      obtain ⟨W47,hW47,hS47,hL47,VD⟩ := V3.lay W40 27 (.bool false) (.slice none 0 0) (.slice none 0 0)
      replace hS := hS.below hL47
      replace ht := ht.below hL47
      replace hna := hna.below hL47
      replace h1 := h1.below hL47
      replace VS := VS.below hL47
      replace VL := VL.below hL47
      replace VH := VH.below hL47
      replace VU := VU.below hL47
      replace BB := BB.trans (hL47.mono BB.size)
      clear hL47
      rw [← hW47]
      generalize W40.heap.size = R47 at *
      clear hW47 hS47
      refine hK.out _ _ ?_ (fun hH4 => ?_)
      ·exact ⟨VS.1,VS.2.1,VS.2.2.1,VL.1,VL.2.1,VH.1,VH.2.1⟩
      clear hK K hH3
      (try simp only [Act.put,xL4,xL5,xL6])
      refine xR [5] (h := ?_)
      refine xN (h := fun K hK => ?_)
      go_simp
      refine (number_at (D : Int) (E : Int) _ (by omega) (by omega) (by omega) (by omega) ht).mono ?_
      rintro e w21 ⟨nd,rfl,hnd,b21⟩
      rw [hqd] at hnd
      go_wp2_with fail
      replace hS := hS.below b21
      replace ht := ht.below b21
      replace hna := hna.below b21
      replace h1 := h1.below b21
      replace VS := VS.below b21
      replace VL := VL.below b21
      replace VH := VH.below b21
      replace VU := VU.below b21
      replace VD := VD.below b21
      replace BB := BB.trans (b21.mono BB.size)
      clear b21
      refine hK.out _ _ ?_ (fun hH5 => ?_)
      ·exact ⟨VS.1,VS.2.1,VS.2.2.1,VL.1,VL.2.1,VH.1,VH.2.1⟩
      clear hK K hH4
      (try simp only [Act.put,xL4,xL5,xL6])
      refine xR [7] (h := ?_)
      refine xN (h := fun K hK => ?_)
      go_simp
      refine (qsub_at _ _ qd S (L + (L + 1) + 1) _ (hnd.at _ (by omega)) hS (by omega) (by omega) ht).mono ?_
      rintro e w22 ⟨v2,rfl,h2,b22⟩
      obtain ⟨p2,a2,n2,c2,b2,m2,d2,rfl⟩ := h2.open
      go_wp2_with fail
      replace hS := hS.below b22
      replace ht := ht.below b22
      replace hna := hna.below b22
      replace h1 := h1.below b22
      replace hnd := hnd.below b22
      replace VS := VS.below b22
      replace VL := VL.below b22
      replace VH := VH.below b22
      replace VU := VU.below b22
      replace VD := VD.below b22
      replace BB := BB.trans (b22.mono BB.size)
      clear b22
      refine hK.out _ _ ?_ (fun hH6 => ?_)
      ·exact ⟨VS.1,VS.2.1,VS.2.2.1,VL.1,VL.2.1,VH.1,VH.2.1⟩
      clear hK K hH5
      (try simp only [Act.put,xL4,xL5,xL6])
      refine xR [10] (h := ?_)
      refine xN (h := fun K hK => ?_)
      have hKp := VD.keepJ (.bool p1) (.slice a1 n1 c1) (.slice b1 m1 d1)
      have VS_n := VS.other3 (R := R47) (by omega) (.bool p1) (.slice a1 n1 c1) (.slice b1 m1 d1)
      have VL_n := VL.other3 (R := R47) (by omega) (.bool p1) (.slice a1 n1 c1) (.slice b1 m1 d1)
      have VH_n := VH.other3 (R := R47) (by omega) (.bool p1) (.slice a1 n1 c1) (.slice b1 m1 d1)
      have VU_n := VU.other3 (R := R47) (by omega) (.bool p1) (.slice a1 n1 c1) (.slice b1 m1 d1)
      have VD_n := VD.same (.bool p1) (.slice a1 n1 c1) (.slice b1 m1 d1)
      have hS_n := hS.keep hKp
      have ht_n := ht.keep hKp
      have hna_n := hna.keep hKp
      have h1_n := h1.keep hKp
      have hnd_n := hnd.keep hKp
      have h2_n := h2.keep hKp
      have BB_n := below_store3 (R := R47) BB (by omega) (.bool p1) (.slice a1 n1 c1) (.slice b1 m1 d1)
      clear hKp
      obtain ⟨VD_0,VD_1,VD_2,VD_3,VD_4,VD_5⟩ := id VD
      go_simp
      clear VD_0 VD_1 VD_2 VD_3 VD_4 VD_5
      clear BB hS ht hna h1 hnd h2 VS VL VH VU VD
      generalize ((w22.setCell ⟨R47,0,none⟩ (.bool p1)).setCell ⟨R47,1,none⟩ (.slice a1 n1 c1)).setCell ⟨R47,2,none⟩ (.slice b1 m1 d1) = W48 at *
      have BB := BB_n
      have hS := hS_n
      have ht := ht_n
      have hna := hna_n
      have h1 := h1_n
      have hnd := hnd_n
      have h2 := h2_n
      have VS := VS_n
      have VL := VL_n
      have VH := VH_n
      have VU := VU_n
      have VD := VD_n
      clear BB_n hS_n ht_n hna_n h1_n hnd_n h2_n VS_n VL_n VH_n VU_n VD_n
      refine hK.out _ _ ?_ (fun hH7 => ?_)
      ·exact ⟨VS.1,VS.2.1,VS.2.2.1,VL.1,VL.2.1,VH.1,VH.2.1⟩
      clear hK K hH6
      (try simp only [Act.put,xL4,xL5,xL6])
      refine xR [11] (h := ?_)
      refine xN (h := fun K hK => ?_)
      have hKp := VU.keepJ (.bool p2) (.slice a2 n2 c2) (.slice b2 m2 d2)
      have VS_n := VS.other3 (R := R40) (by omega) (.bool p2) (.slice a2 n2 c2) (.slice b2 m2 d2)
      have VL_n := VL.other3 (R := R40) (by omega) (.bool p2) (.slice a2 n2 c2) (.slice b2 m2 d2)
      have VH_n := VH.other3 (R := R40) (by omega) (.bool p2) (.slice a2 n2 c2) (.slice b2 m2 d2)
      have VD_n := VD.other3 (R := R40) (by omega) (.bool p2) (.slice a2 n2 c2) (.slice b2 m2 d2)
      have VU_n := VU.same (.bool p2) (.slice a2 n2 c2) (.slice b2 m2 d2)
      have hS_n := hS.keep hKp
      have ht_n := ht.keep hKp
      have hna_n := hna.keep hKp
      have h1_n := h1.keep hKp
      have hnd_n := hnd.keep hKp
      have h2_n := h2.keep hKp
      have BB_n := below_store3 (R := R40) BB (by omega) (.bool p2) (.slice a2 n2 c2) (.slice b2 m2 d2)
      clear hKp
      obtain ⟨VU_0,VU_1,VU_2,VU_3,VU_4,VU_5⟩ := id VU
      go_simp
      clear VU_0 VU_1 VU_2 VU_3 VU_4 VU_5
      clear BB hS ht hna h1 hnd h2 VS VL VH VU VD
      generalize ((W48.setCell ⟨R40,0,none⟩ (.bool p2)).setCell ⟨R40,1,none⟩ (.slice a2 n2 c2)).setCell ⟨R40,2,none⟩ (.slice b2 m2 d2) = W49 at *
      have BB := BB_n
      have hS := hS_n
      have ht := ht_n
      have hna := hna_n
      have h1 := h1_n
      have hnd := hnd_n
      have h2 := h2_n
      have VS := VS_n
      have VL := VL_n
      have VH := VH_n
      have VU := VU_n
      have VD := VD_n
      clear BB_n hS_n ht_n hna_n h1_n hnd_n h2_n VS_n VL_n VH_n VU_n VD_n
      refine hK.out _ _ ?_ (fun hH8 => ?_)
      ·exact ⟨VS.1,VS.2.1,VS.2.2.1,VL.1,VL.2.1,VH.1,VH.2.1⟩
      clear hK K hH7
      (try simp only [Act.put,xL4,xL5,xL6])
      refine wpAnyH_done (by kernel_rfl) ?_ _
      clear hH8
      go_wp2_with fail
      go_meet
      exact ⟨R47,R40,p1,a1,n1,c1,b1,m1,d1,p2,a2,n2,c2,b2,m2,d2,rfl,rfl,VD,VU,h1,h2,BB⟩
     exact AllReadyH.nil
    exact AllReadyH.nil
   refine xC (h := fun K hK => ?_) (hs := ?_)
   ·
    go_simp
    have hZ50 : W6.heap.size ≤ w5.heap.size := BB.size
    have hN50VS : R2 ≠ w5.heap.size := Nat.ne_of_lt VS.lt
    have hN50VL : R3 ≠ w5.heap.size := Nat.ne_of_lt VL.lt
    have hN50VH : R3 + 1 ≠ w5.heap.size := Nat.ne_of_lt VH.lt
    obtain ⟨W50,hW50,hS50,hL50,VD⟩ := V3.lay w5 27 (.bool false) (.slice none 0 0) (.slice none 0 0)
    replace hS := hS.below hL50
    replace ht := ht.below hL50
    replace hna := hna.below hL50
    replace VS := VS.below hL50
    replace VL := VL.below hL50
    replace VH := VH.below hL50
    replace BB := BB.trans (hL50.mono BB.size)
    clear hL50
    rw [← hW50]
    generalize w5.heap.size = R50 at *
    clear hW50 hS50
    refine hK.out _ _ ?_ (fun hH2 => ?_)
    ·exact ⟨VS.1,VS.2.1,VS.2.2.1,VL.1,VL.2.1,VH.1,VH.2.1⟩
    clear hK K hH1
    (try simp only [Act.put,xL4,xL5,xL6])
    refine xR [3,9] (h := ?_)
    refine xC (h := fun K hK => ?_) (hs := ?_)
    ·
     go_simp
     refine (qsub_at _ _ S qa (L + (L + 1) + 1) _ hS (hna.at _ (by omega)) (by omega) (by omega) ht).mono ?_
     rintro e w23 ⟨v1,rfl,h1,b23⟩
     obtain ⟨p1,a1,n1,c1,b1,m1,d1,rfl⟩ := h1.open
     go_wp2_with fail
     replace hS := hS.below b23
     replace ht := ht.below b23
     replace hna := hna.below b23
     replace VS := VS.below b23
     replace VL := VL.below b23
     replace VH := VH.below b23
     replace VD := VD.below b23
     replace BB := BB.trans (b23.mono BB.size)
     clear b23
     refine hK.out _ _ ?_ (fun hH3 => ?_)
     ·exact ⟨VS.1,VS.2.1,VS.2.2.1,VL.1,VL.2.1,VH.1,VH.2.1⟩
     clear hK K hH2
     (try simp only [Act.put,xL4,xL5,xL6])
     refine xR [5,9] (h := ?_)
     refine xC (h := fun K hK => ?_) (hs := ?_)
     ·
      go_simp
      refine (number_at (D : Int) (E : Int) _ (by omega) (by omega) (by omega) (by omega) ht).mono ?_
      rintro e w24 ⟨nd,rfl,hnd,b24⟩
      rw [hqd] at hnd
      go_wp2_with fail
      replace hS := hS.below b24
      replace ht := ht.below b24
      replace hna := hna.below b24
      replace h1 := h1.below b24
      replace VS := VS.below b24
      replace VL := VL.below b24
      replace VH := VH.below b24
      replace VD := VD.below b24
      replace BB := BB.trans (b24.mono BB.size)
      clear b24
      refine hK.out _ _ ?_ (fun hH4 => ?_)
      ·exact ⟨VS.1,VS.2.1,VS.2.2.1,VL.1,VL.2.1,VH.1,VH.2.1⟩
      clear hK K hH3
      (try simp only [Act.put,xL4,xL5,xL6])
      refine xR [7,9] (h := ?_)
      refine xC (h := fun K hK => ?_) (hs := ?_)
      ·
       go_simp
       refine (qsub_at _ _ qd S (L + (L + 1) + 1) _ (hnd.at _ (by omega)) hS (by omega) (by omega) ht).mono ?_
       rintro e w25 ⟨v2,rfl,h2,b25⟩
       obtain ⟨p2,a2,n2,c2,b2,m2,d2,rfl⟩ := h2.open
       go_wp2_with fail
       replace hS := hS.below b25
       replace ht := ht.below b25
       replace hna := hna.below b25
       replace h1 := h1.below b25
       replace hnd := hnd.below b25
       replace VS := VS.below b25
       replace VL := VL.below b25
       replace VH := VH.below b25
       replace VD := VD.below b25
       replace BB := BB.trans (b25.mono BB.size)
       clear b25
       refine hK.out _ _ ?_ (fun hH5 => ?_)
       ·exact ⟨VS.1,VS.2.1,VS.2.2.1,VL.1,VL.2.1,VH.1,VH.2.1⟩
       clear hK K hH4
       (try simp only [Act.put,xL4,xL5,xL6])
       refine xR [9] (h := ?_)
       refine xN (h := fun K hK => ?_)
       go_simp
       have hZ51 : W6.heap.size ≤ w25.heap.size := BB.size
       have hN51VS : R2 ≠ w25.heap.size := Nat.ne_of_lt VS.lt
       have hN51VL : R3 ≠ w25.heap.size := Nat.ne_of_lt VL.lt
       have hN51VH : R3 + 1 ≠ w25.heap.size := Nat.ne_of_lt VH.lt
       have hN51VD : R50 ≠ w25.heap.size := Nat.ne_of_lt VD.lt
       obtain ⟨W51,hW51,hS51,hL51,VU⟩ := V3.lay w25 27 (.bool false) (.slice none 0 0) (.slice none 0 0)
       replace hS := hS.below hL51
       replace ht := ht.below hL51
       replace hna := hna.below hL51
       replace h1 := h1.below hL51
       replace hnd := hnd.below hL51
       replace h2 := h2.below hL51
       replace VS := VS.below hL51
       replace VL := VL.below hL51
       replace VH := VH.below hL51
       replace VD := VD.below hL51
       replace BB := BB.trans (hL51.mono BB.size)
       clear hL51
       rw [← hW51]
       generalize w25.heap.size = R51 at *
       clear hW51 hS51
       refine hK.out _ _ ?_ (fun hH6 => ?_)
       ·exact ⟨VS.1,VS.2.1,VS.2.2.1,VL.1,VL.2.1,VH.1,VH.2.1⟩
       clear hK K hH5
       (try simp only [Act.put,xL4,xL5,xL6])
       refine xR [10] (h := ?_)
       refine xN (h := fun K hK => ?_)
       have hKp := VD.keepJ (.bool p1) (.slice a1 n1 c1) (.slice b1 m1 d1)
       have VS_n := VS.other3 (R := R50) (by omega) (.bool p1) (.slice a1 n1 c1) (.slice b1 m1 d1)
       have VL_n := VL.other3 (R := R50) (by omega) (.bool p1) (.slice a1 n1 c1) (.slice b1 m1 d1)
       have VH_n := VH.other3 (R := R50) (by omega) (.bool p1) (.slice a1 n1 c1) (.slice b1 m1 d1)
       have VU_n := VU.other3 (R := R50) (by omega) (.bool p1) (.slice a1 n1 c1) (.slice b1 m1 d1)
       have VD_n := VD.same (.bool p1) (.slice a1 n1 c1) (.slice b1 m1 d1)
       have hS_n := hS.keep hKp
       have ht_n := ht.keep hKp
       have hna_n := hna.keep hKp
       have h1_n := h1.keep hKp
       have hnd_n := hnd.keep hKp
       have h2_n := h2.keep hKp
       have BB_n := below_store3 (R := R50) BB (by omega) (.bool p1) (.slice a1 n1 c1) (.slice b1 m1 d1)
       clear hKp
       obtain ⟨VD_0,VD_1,VD_2,VD_3,VD_4,VD_5⟩ := id VD
       go_simp
       clear VD_0 VD_1 VD_2 VD_3 VD_4 VD_5
       clear BB hS ht hna h1 hnd h2 VS VL VH VD VU
       generalize ((W51.setCell ⟨R50,0,none⟩ (.bool p1)).setCell ⟨R50,1,none⟩ (.slice a1 n1 c1)).setCell ⟨R50,2,none⟩ (.slice b1 m1 d1) = W52 at *
       have BB := BB_n
       have hS := hS_n
       have ht := ht_n
       have hna := hna_n
       have h1 := h1_n
       have hnd := hnd_n
       have h2 := h2_n
       have VS := VS_n
       have VL := VL_n
       have VH := VH_n
       have VD := VD_n
       have VU := VU_n
       clear BB_n hS_n ht_n hna_n h1_n hnd_n h2_n VS_n VL_n VH_n VD_n VU_n
       refine hK.out _ _ ?_ (fun hH7 => ?_)
       ·exact ⟨VS.1,VS.2.1,VS.2.2.1,VL.1,VL.2.1,VH.1,VH.2.1⟩
       clear hK K hH6
       (try simp only [Act.put,xL4,xL5,xL6])
       refine xR [11] (h := ?_)
       refine xN (h := fun K hK => ?_)
       have hKp := VU.keepJ (.bool p2) (.slice a2 n2 c2) (.slice b2 m2 d2)
       have VS_n := VS.other3 (R := R51) (by omega) (.bool p2) (.slice a2 n2 c2) (.slice b2 m2 d2)
       have VL_n := VL.other3 (R := R51) (by omega) (.bool p2) (.slice a2 n2 c2) (.slice b2 m2 d2)
       have VH_n := VH.other3 (R := R51) (by omega) (.bool p2) (.slice a2 n2 c2) (.slice b2 m2 d2)
       have VD_n := VD.other3 (R := R51) (by omega) (.bool p2) (.slice a2 n2 c2) (.slice b2 m2 d2)
       have VU_n := VU.same (.bool p2) (.slice a2 n2 c2) (.slice b2 m2 d2)
       have hS_n := hS.keep hKp
       have ht_n := ht.keep hKp
       have hna_n := hna.keep hKp
       have h1_n := h1.keep hKp
       have hnd_n := hnd.keep hKp
       have h2_n := h2.keep hKp
       have BB_n := below_store3 (R := R51) BB (by omega) (.bool p2) (.slice a2 n2 c2) (.slice b2 m2 d2)
       clear hKp
       obtain ⟨VU_0,VU_1,VU_2,VU_3,VU_4,VU_5⟩ := id VU
       go_simp
       clear VU_0 VU_1 VU_2 VU_3 VU_4 VU_5
       clear BB hS ht hna h1 hnd h2 VS VL VH VD VU
       generalize ((W52.setCell ⟨R51,0,none⟩ (.bool p2)).setCell ⟨R51,1,none⟩ (.slice a2 n2 c2)).setCell ⟨R51,2,none⟩ (.slice b2 m2 d2) = W53 at *
       have BB := BB_n
       have hS := hS_n
       have ht := ht_n
       have hna := hna_n
       have h1 := h1_n
       have hnd := hnd_n
       have h2 := h2_n
       have VS := VS_n
       have VL := VL_n
       have VH := VH_n
       have VD := VD_n
       have VU := VU_n
       clear BB_n hS_n ht_n hna_n h1_n hnd_n h2_n VS_n VL_n VH_n VD_n VU_n
       refine hK.out _ _ ?_ (fun hH8 => ?_)
       ·exact ⟨VS.1,VS.2.1,VS.2.2.1,VL.1,VL.2.1,VH.1,VH.2.1⟩
       clear hK K hH7
       (try simp only [Act.put,xL4,xL5,xL6])
       refine wpAnyH_done (by kernel_rfl) ?_ _
       clear hH8
       go_wp2_with fail
       go_meet
       exact ⟨R50,R51,p1,a1,n1,c1,b1,m1,d1,p2,a2,n2,c2,b2,m2,d2,rfl,rfl,VD,VU,h1,h2,BB⟩
      refine xC (h := fun K hK => ?_) (hs := ?_)
      ·
       go_simp
       have hZ54 : W6.heap.size ≤ w24.heap.size := BB.size
       have hN54VS : R2 ≠ w24.heap.size := Nat.ne_of_lt VS.lt
       have hN54VL : R3 ≠ w24.heap.size := Nat.ne_of_lt VL.lt
       have hN54VH : R3 + 1 ≠ w24.heap.size := Nat.ne_of_lt VH.lt
       have hN54VD : R50 ≠ w24.heap.size := Nat.ne_of_lt VD.lt
       obtain ⟨W54,hW54,hS54,hL54,VU⟩ := V3.lay w24 27 (.bool false) (.slice none 0 0) (.slice none 0 0)
       replace hS := hS.below hL54
       replace ht := ht.below hL54
       replace hna := hna.below hL54
       replace h1 := h1.below hL54
       replace hnd := hnd.below hL54
       replace VS := VS.below hL54
       replace VL := VL.below hL54
       replace VH := VH.below hL54
       replace VD := VD.below hL54
       replace BB := BB.trans (hL54.mono BB.size)
       clear hL54
       rw [← hW54]
       generalize w24.heap.size = R54 at *
       clear hW54 hS54
       refine hK.out _ _ ?_ (fun hH5 => ?_)
       ·exact ⟨VS.1,VS.2.1,VS.2.2.1,VL.1,VL.2.1,VH.1,VH.2.1⟩
       clear hK K hH4
       (try simp only [Act.put,xL4,xL5,xL6])
       refine xR [7] (h := ?_)
       refine xN (h := fun K hK => ?_)
       go_simp
       refine (qsub_at _ _ qd S (L + (L + 1) + 1) _ (hnd.at _ (by omega)) hS (by omega) (by omega) ht).mono ?_
       rintro e w26 ⟨v2,rfl,h2,b26⟩
       obtain ⟨p2,a2,n2,c2,b2,m2,d2,rfl⟩ := h2.open
       go_wp2_with fail
       replace hS := hS.below b26
       replace ht := ht.below b26
       replace hna := hna.below b26
       replace h1 := h1.below b26
       replace hnd := hnd.below b26
       replace VS := VS.below b26
       replace VL := VL.below b26
       replace VH := VH.below b26
       replace VD := VD.below b26
       replace VU := VU.below b26
       replace BB := BB.trans (b26.mono BB.size)
       clear b26
       refine hK.out _ _ ?_ (fun hH6 => ?_)
       ·exact ⟨VS.1,VS.2.1,VS.2.2.1,VL.1,VL.2.1,VH.1,VH.2.1⟩
       clear hK K hH5
       (try simp only [Act.put,xL4,xL5,xL6])
       refine xR [10] (h := ?_)
       refine xN (h := fun K hK => ?_)
       have hKp := VD.keepJ (.bool p1) (.slice a1 n1 c1) (.slice b1 m1 d1)
       have VS_n := VS.other3 (R := R50) (by omega) (.bool p1) (.slice a1 n1 c1) (.slice b1 m1 d1)
       have VL_n := VL.other3 (R := R50) (by omega) (.bool p1) (.slice a1 n1 c1) (.slice b1 m1 d1)
       have VH_n := VH.other3 (R := R50) (by omega) (.bool p1) (.slice a1 n1 c1) (.slice b1 m1 d1)
       have VU_n := VU.other3 (R := R50) (by omega) (.bool p1) (.slice a1 n1 c1) (.slice b1 m1 d1)
       have VD_n := VD.same (.bool p1) (.slice a1 n1 c1) (.slice b1 m1 d1)
       have hS_n := hS.keep hKp
       have ht_n := ht.keep hKp
       have hna_n := hna.keep hKp
       have h1_n := h1.keep hKp
       have hnd_n := hnd.keep hKp
       have h2_n := h2.keep hKp
       have BB_n := below_store3 (R := R50) BB (by omega) (.bool p1) (.slice a1 n1 c1) (.slice b1 m1 d1)
       clear hKp
       obtain ⟨VD_0,VD_1,VD_2,VD_3,VD_4,VD_5⟩ := id VD
       go_simp
       clear VD_0 VD_1 VD_2 VD_3 VD_4 VD_5
       clear BB hS ht hna h1 hnd h2 VS VL VH VD VU
       generalize ((w26.setCell ⟨R50,0,none⟩ (.bool p1)).setCell ⟨R50,1,none⟩ (.slice a1 n1 c1)).setCell ⟨R50,2,none⟩ (.slice b1 m1 d1) = W55 at *
       have BB := BB_n
       have hS := hS_n
       have ht := ht_n
       have hna := hna_n
       have h1 := h1_n
       have hnd := hnd_n
       have h2 := h2_n
       have VS := VS_n
       have VL := VL_n
       have VH := VH_n
       have VD := VD_n
       have VU := VU_n
       clear BB_n hS_n ht_n hna_n h1_n hnd_n h2_n VS_n VL_n VH_n VD_n VU_n
       refine hK.out _ _ ?_ (fun hH7 => ?_)
       ·exact ⟨VS.1,VS.2.1,VS.2.2.1,VL.1,VL.2.1,VH.1,VH.2.1⟩
       clear hK K hH6
       (try simp only [Act.put,xL4,xL5,xL6])
       refine xR [11] (h := ?_)
       refine xN (h := fun K hK => ?_)
       have hKp := VU.keepJ (.bool p2) (.slice a2 n2 c2) (.slice b2 m2 d2)
       have VS_n := VS.other3 (R := R54) (by omega) (.bool p2) (.slice a2 n2 c2) (.slice b2 m2 d2)
       have VL_n := VL.other3 (R := R54) (by omega) (.bool p2) (.slice a2 n2 c2) (.slice b2 m2 d2)
       have VH_n := VH.other3 (R := R54) (by omega) (.bool p2) (.slice a2 n2 c2) (.slice b2 m2 d2)
       have VD_n := VD.other3 (R := R54) (by omega) (.bool p2) (.slice a2 n2 c2) (.slice b2 m2 d2)
       have VU_n := VU.same (.bool p2) (.slice a2 n2 c2) (.slice b2 m2 d2)
       have hS_n := hS.keep hKp
       have ht_n := ht.keep hKp
       have hna_n := hna.keep hKp
       have h1_n := h1.keep hKp
       have hnd_n := hnd.keep hKp
       have h2_n := h2.keep hKp
       have BB_n := below_store3 (R := R54) BB (by omega) (.bool p2) (.slice a2 n2 c2) (.slice b2 m2 d2)
       clear hKp
       obtain ⟨VU_0,VU_1,VU_2,VU_3,VU_4,VU_5⟩ := id VU
       go_simp
       clear VU_0 VU_1 VU_2 VU_3 VU_4 VU_5
       clear BB hS ht hna h1 hnd h2 VS VL VH VD VU
       generalize ((W55.setCell ⟨R54,0,none⟩ (.bool p2)).setCell ⟨R54,1,none⟩ (.slice a2 n2 c2)).setCell ⟨R54,2,none⟩ (.slice b2 m2 d2) = W56 at *
       have BB := BB_n
       have hS := hS_n
       have ht := ht_n
       have hna := hna_n
       have h1 := h1_n
       have hnd := hnd_n
       have h2 := h2_n
       have VS := VS_n
       have VL := VL_n
       have VH := VH_n
       have VD := VD_n
       have VU := VU_n
       clear BB_n hS_n ht_n hna_n h1_n hnd_n h2_n VS_n VL_n VH_n VD_n VU_n
       refine hK.out _ _ ?_ (fun hH8 => ?_)
       ·exact ⟨VS.1,VS.2.1,VS.2.2.1,VL.1,VL.2.1,VH.1,VH.2.1⟩
       clear hK K hH7
       (try simp only [Act.put,xL4,xL5,xL6])
       refine wpAnyH_done (by kernel_rfl) ?_ _
       clear hH8
       go_wp2_with fail
       go_meet
       exact ⟨R50,R54,p1,a1,n1,c1,b1,m1,d1,p2,a2,n2,c2,b2,m2,d2,rfl,rfl,VD,VU,h1,h2,BB⟩
      exact AllReadyH.nil
     refine xC (h := fun K hK => ?_) (hs := ?_)
     ·
      go_simp
      have hZ57 : W6.heap.size ≤ w23.heap.size := BB.size
      have hN57VS : R2 ≠ w23.heap.size := Nat.ne_of_lt VS.lt
      have hN57VL : R3 ≠ w23.heap.size := Nat.ne_of_lt VL.lt
      have hN57VH : R3 + 1 ≠ w23.heap.size := Nat.ne_of_lt VH.lt
      have hN57VD : R50 ≠ w23.heap.size := Nat.ne_of_lt VD.lt
      obtain ⟨W57,hW57,hS57,hL57,VU⟩ := V3.lay w23 27 (.bool false) (.slice none 0 0) (.slice none 0 0)
      replace hS := hS.below hL57
      replace ht := ht.below hL57
      replace hna := hna.below hL57
      replace h1 := h1.below hL57
      replace VS := VS.below hL57
      replace VL := VL.below hL57
      replace VH := VH.below hL57
      replace VD := VD.below hL57
      replace BB := BB.trans (hL57.mono BB.size)
      clear hL57
      rw [← hW57]
      generalize w23.heap.size = R57 at *
      clear hW57 hS57
      refine hK.out _ _ ?_ (fun hH4 => ?_)
      ·exact ⟨VS.1,VS.2.1,VS.2.2.1,VL.1,VL.2.1,VH.1,VH.2.1⟩
      clear hK K hH3
      (try simp only [Act.put,xL4,xL5,xL6])
      refine xR [5] (h := ?_)
      refine xN (h := fun K hK => ?_)
      go_simp
      refine (number_at (D : Int) (E : Int) _ (by omega) (by omega) (by omega) (by omega) ht).mono ?_
      rintro e w27 ⟨nd,rfl,hnd,b27⟩
      rw [hqd] at hnd
      go_wp2_with fail
      replace hS := hS.below b27
      replace ht := ht.below b27
      replace hna := hna.below b27
      replace h1 := h1.below b27
      replace VS := VS.below b27
      replace VL := VL.below b27
      replace VH := VH.below b27
      replace VD := VD.below b27
      replace VU := VU.below b27
      replace BB := BB.trans (b27.mono BB.size)
      clear b27
      refine hK.out _ _ ?_ (fun hH5 => ?_)
      ·exact ⟨VS.1,VS.2.1,VS.2.2.1,VL.1,VL.2.1,VH.1,VH.2.1⟩
      clear hK K hH4
      (try simp only [Act.put,xL4,xL5,xL6])
      refine xR [7] (h := ?_)
      refine xN (h := fun K hK => ?_)
      go_simp
      refine (qsub_at _ _ qd S (L + (L + 1) + 1) _ (hnd.at _ (by omega)) hS (by omega) (by omega) ht).mono ?_
      rintro e w28 ⟨v2,rfl,h2,b28⟩
      obtain ⟨p2,a2,n2,c2,b2,m2,d2,rfl⟩ := h2.open
      go_wp2_with fail
      replace hS := hS.below b28
      replace ht := ht.below b28
      replace hna := hna.below b28
      replace h1 := h1.below b28
      replace hnd := hnd.below b28
      replace VS := VS.below b28
      replace VL := VL.below b28
      replace VH := VH.below b28
      replace VD := VD.below b28
      replace VU := VU.below b28
      replace BB := BB.trans (b28.mono BB.size)
      clear b28
      refine hK.out _ _ ?_ (fun hH6 => ?_)
      ·exact ⟨VS.1,VS.2.1,VS.2.2.1,VL.1,VL.2.1,VH.1,VH.2.1⟩
      clear hK K hH5
      (try simp only [Act.put,xL4,xL5,xL6])
      refine xR [10] (h := ?_)
      refine xN (h := fun K hK => ?_)
      have hKp := VD.keepJ (.bool p1) (.slice a1 n1 c1) (.slice b1 m1 d1)
      have VS_n := VS.other3 (R := R50) (by omega) (.bool p1) (.slice a1 n1 c1) (.slice b1 m1 d1)
      have VL_n := VL.other3 (R := R50) (by omega) (.bool p1) (.slice a1 n1 c1) (.slice b1 m1 d1)
      have VH_n := VH.other3 (R := R50) (by omega) (.bool p1) (.slice a1 n1 c1) (.slice b1 m1 d1)
      have VU_n := VU.other3 (R := R50) (by omega) (.bool p1) (.slice a1 n1 c1) (.slice b1 m1 d1)
      have VD_n := VD.same (.bool p1) (.slice a1 n1 c1) (.slice b1 m1 d1)
      have hS_n := hS.keep hKp
      have ht_n := ht.keep hKp
      have hna_n := hna.keep hKp
      have h1_n := h1.keep hKp
      have hnd_n := hnd.keep hKp
      have h2_n := h2.keep hKp
      have BB_n := below_store3 (R := R50) BB (by omega) (.bool p1) (.slice a1 n1 c1) (.slice b1 m1 d1)
      clear hKp
      obtain ⟨VD_0,VD_1,VD_2,VD_3,VD_4,VD_5⟩ := id VD
      go_simp
      clear VD_0 VD_1 VD_2 VD_3 VD_4 VD_5
      clear BB hS ht hna h1 hnd h2 VS VL VH VD VU
      generalize ((w28.setCell ⟨R50,0,none⟩ (.bool p1)).setCell ⟨R50,1,none⟩ (.slice a1 n1 c1)).setCell ⟨R50,2,none⟩ (.slice b1 m1 d1) = W58 at *
      have BB := BB_n
      have hS := hS_n
      have ht := ht_n
      have hna := hna_n
      have h1 := h1_n
      have hnd := hnd_n
      have h2 := h2_n
      have VS := VS_n
      have VL := VL_n
      have VH := VH_n
      have VD := VD_n
      have VU := VU_n
      clear BB_n hS_n ht_n hna_n h1_n hnd_n h2_n VS_n VL_n VH_n VD_n VU_n
      refine hK.out _ _ ?_ (fun hH7 => ?_)
      ·exact ⟨VS.1,VS.2.1,VS.2.2.1,VL.1,VL.2.1,VH.1,VH.2.1⟩
      clear hK K hH6
      (try simp only [Act.put,xL4,xL5,xL6])
      refine xR [11] (h := ?_)
      refine xN (h := fun K hK => ?_)
      have hKp := VU.keepJ (.bool p2) (.slice a2 n2 c2) (.slice b2 m2 d2)
      have VS_n := VS.other3 (R := R57) (by omega) (.bool p2) (.slice a2 n2 c2) (.slice b2 m2 d2)
      have VL_n := VL.other3 (R := R57) (by omega) (.bool p2) (.slice a2 n2 c2) (.slice b2 m2 d2)
      have VH_n := VH.other3 (R := R57) (by omega) (.bool p2) (.slice a2 n2 c2) (.slice b2 m2 d2)
      have VD_n := VD.other3 (R := R57) (by omega) (.bool p2) (.slice a2 n2 c2) (.slice b2 m2 d2)
      have VU_n := VU.same (.bool p2) (.slice a2 n2 c2) (.slice b2 m2 d2)
      have hS_n := hS.keep hKp
      have ht_n := ht.keep hKp
      have hna_n := hna.keep hKp
      have h1_n := h1.keep hKp
      have hnd_n := hnd.keep hKp
      have h2_n := h2.keep hKp
      have BB_n := below_store3 (R := R57) BB (by omega) (.bool p2) (.slice a2 n2 c2) (.slice b2 m2 d2)
      clear hKp
      obtain ⟨VU_0,VU_1,VU_2,VU_3,VU_4,VU_5⟩ := id VU
      go_simp
      clear VU_0 VU_1 VU_2 VU_3 VU_4 VU_5
      clear BB hS ht hna h1 hnd h2 VS VL VH VD VU
      generalize ((W58.setCell ⟨R57,0,none⟩ (.bool p2)).setCell ⟨R57,1,none⟩ (.slice a2 n2 c2)).setCell ⟨R57,2,none⟩ (.slice b2 m2 d2) = W59 at *
      have BB := BB_n
      have hS := hS_n
      have ht := ht_n
      have hna := hna_n
      have h1 := h1_n
      have hnd := hnd_n
      have h2 := h2_n
      have VS := VS_n
      have VL := VL_n
      have VH := VH_n
      have VD := VD_n
      have VU := VU_n
      clear BB_n hS_n ht_n hna_n h1_n hnd_n h2_n VS_n VL_n VH_n VD_n VU_n
      refine hK.out _ _ ?_ (fun hH8 => ?_)
      ·exact ⟨VS.1,VS.2.1,VS.2.2.1,VL.1,VL.2.1,VH.1,VH.2.1⟩
      clear hK K hH7
      (try simp only [Act.put,xL4,xL5,xL6])
      refine wpAnyH_done (by kernel_rfl) ?_ _
      clear hH8
      go_wp2_with fail
      go_meet
      exact ⟨R50,R57,p1,a1,n1,c1,b1,m1,d1,p2,a2,n2,c2,b2,m2,d2,rfl,rfl,VD,VU,h1,h2,BB⟩
     exact AllReadyH.nil
    refine xC (h := fun K hK => ?_) (hs := ?_)
    ·
     go_simp
     have hZ60 : W6.heap.size ≤ W50.heap.size := BB.size
     have hN60VS : R2 ≠ W50.heap.size := Nat.ne_of_lt VS.lt
     have hN60VL : R3 ≠ W50.heap.size := Nat.ne_of_lt VL.lt
     have hN60VH : R3 + 1 ≠ W50.heap.size := Nat.ne_of_lt VH.lt
     have hN60VD : R50 ≠ W50.heap.size := Nat.ne_of_lt VD.lt
     obtain ⟨W60,hW60,hS60,hL60,VU⟩ := V3.lay W50 27 (.bool false) (.slice none 0 0) (.slice none 0 0)
     replace hS := hS.below hL60
     replace ht := ht.below hL60
     replace hna := hna.below hL60
     replace VS := VS.below hL60
     replace VL := VL.below hL60
     replace VH := VH.below hL60
     replace VD := VD.below hL60
     replace BB := BB.trans (hL60.mono BB.size)
     clear hL60
     rw [← hW60]
     generalize W50.heap.size = R60 at *
     clear hW60 hS60
     refine hK.out _ _ ?_ (fun hH3 => ?_)
     ·exact ⟨VS.1,VS.2.1,VS.2.2.1,VL.1,VL.2.1,VH.1,VH.2.1⟩
     clear hK K hH2
     (try simp only [Act.put,xL4,xL5,xL6])
     refine xR [3] (h := ?_)
     refine xN (h := fun K hK => ?_)
     go_simp
     refine (qsub_at _ _ S qa (L + (L + 1) + 1) _ hS (hna.at _ (by omega)) (by omega) (by omega) ht).mono ?_
     rintro e w29 ⟨v1,rfl,h1,b29⟩
     obtain ⟨p1,a1,n1,c1,b1,m1,d1,rfl⟩ := h1.open
     go_wp2_with fail
     replace hS := hS.below b29
     replace ht := ht.below b29
     replace hna := hna.below b29
     replace VS := VS.below b29
     replace VL := VL.below b29
     replace VH := VH.below b29
     replace VD := VD.below b29
     replace VU := VU.below b29
     replace BB := BB.trans (b29.mono BB.size)
     clear b29
     refine hK.out _ _ ?_ (fun hH4 => ?_)
     ·exact ⟨VS.1,VS.2.1,VS.2.2.1,VL.1,VL.2.1,VH.1,VH.2.1⟩
     clear hK K hH3
     (try simp only [Act.put,xL4,xL5,xL6])
     refine xR [5] (h := ?_)
     refine xN (h := fun K hK => ?_)
     go_simp
     refine (number_at (D : Int) (E : Int) _ (by omega) (by omega) (by omega) (by omega) ht).mono ?_
     rintro e w30 ⟨nd,rfl,hnd,b30⟩
     rw [hqd] at hnd
     go_wp2_with fail
     replace hS := hS.below b30
     replace ht := ht.below b30
     replace hna := hna.below b30
     replace h1 := h1.below b30
     replace VS := VS.below b30
     replace VL := VL.below b30
     replace VH := VH.below b30
     replace VD := VD.below b30
     replace VU := VU.below b30
     replace BB := BB.trans (b30.mono BB.size)
     clear b30
     refine hK.out _ _ ?_ (fun hH5 => ?_)
     ·exact ⟨VS.1,VS.2.1,VS.2.2.1,VL.1,VL.2.1,VH.1,VH.2.1⟩
     clear hK K hH4
     (try simp only [Act.put,xL4,xL5,xL6])
     refine xR [7] (h := ?_)
     refine xN (h := fun K hK => ?_)
     go_simp
     refine (qsub_at _ _ qd S (L + (L + 1) + 1) _ (hnd.at _ (by omega)) hS (by omega) (by omega) ht).mono ?_
     rintro e w31 ⟨v2,rfl,h2,b31⟩
     obtain ⟨p2,a2,n2,c2,b2,m2,d2,rfl⟩ := h2.open
     go_wp2_with fail
     replace hS := hS.below b31
     replace ht := ht.below b31
     replace hna := hna.below b31
     replace h1 := h1.below b31
     replace hnd := hnd.below b31
     replace VS := VS.below b31
     replace VL := VL.below b31
     replace VH := VH.below b31
     replace VD := VD.below b31
     replace VU := VU.below b31
     replace BB := BB.trans (b31.mono BB.size)
     clear b31
     refine hK.out _ _ ?_ (fun hH6 => ?_)
     ·exact ⟨VS.1,VS.2.1,VS.2.2.1,VL.1,VL.2.1,VH.1,VH.2.1⟩
     clear hK K hH5
     (try simp only [Act.put,xL4,xL5,xL6])
     refine xR [10] (h := ?_)
     refine xN (h := fun K hK => ?_)
     have hKp := VD.keepJ (.bool p1) (.slice a1 n1 c1) (.slice b1 m1 d1)
     have VS_n := VS.other3 (R := R50) (by omega) (.bool p1) (.slice a1 n1 c1) (.slice b1 m1 d1)
     have VL_n := VL.other3 (R := R50) (by omega) (.bool p1) (.slice a1 n1 c1) (.slice b1 m1 d1)
     have VH_n := VH.other3 (R := R50) (by omega) (.bool p1) (.slice a1 n1 c1) (.slice b1 m1 d1)
     have VU_n := VU.other3 (R := R50) (by omega) (.bool p1) (.slice a1 n1 c1) (.slice b1 m1 d1)
     have VD_n := VD.same (.bool p1) (.slice a1 n1 c1) (.slice b1 m1 d1)
     have hS_n := hS.keep hKp
     have ht_n := ht.keep hKp
     have hna_n := hna.keep hKp
     have h1_n := h1.keep hKp
     have hnd_n := hnd.keep hKp
     have h2_n := h2.keep hKp
     have BB_n := below_store3 (R := R50) BB (by omega) (.bool p1) (.slice a1 n1 c1) (.slice b1 m1 d1)
     clear hKp
     obtain ⟨VD_0,VD_1,VD_2,VD_3,VD_4,VD_5⟩ := id VD
     go_simp
     clear VD_0 VD_1 VD_2 VD_3 VD_4 VD_5
     clear BB hS ht hna h1 hnd h2 VS VL VH VD VU
     generalize ((w31.setCell ⟨R50,0,none⟩ (.bool p1)).setCell ⟨R50,1,none⟩ (.slice a1 n1 c1)).setCell ⟨R50,2,none⟩ (.slice b1 m1 d1) = W61 at *
     have BB := BB_n
     have hS := hS_n
     have ht := ht_n
     have hna := hna_n
     have h1 := h1_n
     have hnd := hnd_n
     have h2 := h2_n
     have VS := VS_n
     have VL := VL_n
     have VH := VH_n
     have VD := VD_n
     have VU := VU_n
     clear BB_n hS_n ht_n hna_n h1_n hnd_n h2_n VS_n VL_n VH_n VD_n VU_n
     refine hK.out _ _ ?_ (fun hH7 => ?_)
     ·exact ⟨VS.1,VS.2.1,VS.2.2.1,VL.1,VL.2.1,VH.1,VH.2.1⟩
     clear hK K hH6
     (try simp only [Act.put,xL4,xL5,xL6])
     refine xR [11] (h := ?_)
     refine xN (h := fun K hK => ?_)
     have hKp := VU.keepJ (.bool p2) (.slice a2 n2 c2) (.slice b2 m2 d2)
     have VS_n := VS.other3 (R := R60) (by omega) (.bool p2) (.slice a2 n2 c2) (.slice b2 m2 d2)
     have VL_n := VL.other3 (R := R60) (by omega) (.bool p2) (.slice a2 n2 c2) (.slice b2 m2 d2)
     have VH_n := VH.other3 (R := R60) (by omega) (.bool p2) (.slice a2 n2 c2) (.slice b2 m2 d2)
     have VD_n := VD.other3 (R := R60) (by omega) (.bool p2) (.slice a2 n2 c2) (.slice b2 m2 d2)
     have VU_n := VU.same (.bool p2) (.slice a2 n2 c2) (.slice b2 m2 d2)
     have hS_n := hS.keep hKp
     have ht_n := ht.keep hKp
     have hna_n := hna.keep hKp
     have h1_n := h1.keep hKp
     have hnd_n := hnd.keep hKp
     have h2_n := h2.keep hKp
     have BB_n := below_store3 (R := R60) BB (by omega) (.bool p2) (.slice a2 n2 c2) (.slice b2 m2 d2)
     clear hKp
     obtain ⟨VU_0,VU_1,VU_2,VU_3,VU_4,VU_5⟩ := id VU
     go_simp
     clear VU_0 VU_1 VU_2 VU_3 VU_4 VU_5
     clear BB hS ht hna h1 hnd h2 VS VL VH VD VU
     generalize ((W61.setCell ⟨R60,0,none⟩ (.bool p2)).setCell ⟨R60,1,none⟩ (.slice a2 n2 c2)).setCell ⟨R60,2,none⟩ (.slice b2 m2 d2) = W62 at *
     have BB := BB_n
     have hS := hS_n
     have ht := ht_n
     have hna := hna_n
     have h1 := h1_n
     have hnd := hnd_n
     have h2 := h2_n
     have VS := VS_n
     have VL := VL_n
     have VH := VH_n
     have VD := VD_n
     have VU := VU_n
     clear BB_n hS_n ht_n hna_n h1_n hnd_n h2_n VS_n VL_n VH_n VD_n VU_n
     refine hK.out _ _ ?_ (fun hH8 => ?_)
     ·exact ⟨VS.1,VS.2.1,VS.2.2.1,VL.1,VL.2.1,VH.1,VH.2.1⟩
     clear hK K hH7
     (try simp only [Act.put,xL4,xL5,xL6])
     refine wpAnyH_done (by kernel_rfl) ?_ _
     clear hH8
     go_wp2_with fail
     go_meet
     exact ⟨R50,R60,p1,a1,n1,c1,b1,m1,d1,p2,a2,n2,c2,b2,m2,d2,rfl,rfl,VD,VU,h1,h2,BB⟩
    exact AllReadyH.nil
   refine xC (h := fun K hK => ?_) (hs := ?_)
   ·
    go_simp
    have hZ63 : W6.heap.size ≤ w5.heap.size := BB.size
    have hN63VS : R2 ≠ w5.heap.size := Nat.ne_of_lt VS.lt
    have hN63VL : R3 ≠ w5.heap.size := Nat.ne_of_lt VL.lt
    have hN63VH : R3 + 1 ≠ w5.heap.size := Nat.ne_of_lt VH.lt
    obtain ⟨W63,hW63,hS63,hL63,VU⟩ := V3.lay w5 27 (.bool false) (.slice none 0 0) (.slice none 0 0)
    replace hS := hS.below hL63
    replace ht := ht.below hL63
    replace hna := hna.below hL63
    replace VS := VS.below hL63
    replace VL := VL.below hL63
    replace VH := VH.below hL63
    replace BB := BB.trans (hL63.mono BB.size)
    clear hL63
    rw [← hW63]
    generalize w5.heap.size = R63 at *
    clear hW63 hS63
    refine hK.out _ _ ?_ (fun hH2 => ?_)
    ·exact ⟨VS.1,VS.2.1,VS.2.2.1,VL.1,VL.2.1,VH.1,VH.2.1⟩
    clear hK K hH1
    (try simp only [Act.put,xL4,xL5,xL6])
    refine xR [3,8] (h := ?_)
    refine xC (h := fun K hK => ?_) (hs := ?_)
    ·
     go_simp
     refine (qsub_at _ _ S qa (L + (L + 1) + 1) _ hS (hna.at _ (by omega)) (by omega) (by omega) ht).mono ?_
     rintro e w32 ⟨v1,rfl,h1,b32⟩
     obtain ⟨p1,a1,n1,c1,b1,m1,d1,rfl⟩ := h1.open
     go_wp2_with fail
     replace hS := hS.below b32
     replace ht := ht.below b32
     replace hna := hna.below b32
     replace VS := VS.below b32
     replace VL := VL.below b32
     replace VH := VH.below b32
     replace VU := VU.below b32
     replace BB := BB.trans (b32.mono BB.size)
     clear b32
     refine hK.out _ _ ?_ (fun hH3 => ?_)
     ·exact ⟨VS.1,VS.2.1,VS.2.2.1,VL.1,VL.2.1,VH.1,VH.2.1⟩
     clear hK K hH2
     (try simp only [Act.put,xL4,xL5,xL6])
     refine xR [5,8] (h := ?_)
     refine xC (h := fun K hK => ?_) (hs := ?_)
     ·
      go_simp
      refine (number_at (D : Int) (E : Int) _ (by omega) (by omega) (by omega) (by omega) ht).mono ?_
      rintro e w33 ⟨nd,rfl,hnd,b33⟩
      rw [hqd] at hnd
      go_wp2_with fail
      replace hS := hS.below b33
      replace ht := ht.below b33
      replace hna := hna.below b33
      replace h1 := h1.below b33
      replace VS := VS.below b33
      replace VL := VL.below b33
      replace VH := VH.below b33
      replace VU := VU.below b33
      replace BB := BB.trans (b33.mono BB.size)
      clear b33
      refine hK.out _ _ ?_ (fun hH4 => ?_)
      ·exact ⟨VS.1,VS.2.1,VS.2.2.1,VL.1,VL.2.1,VH.1,VH.2.1⟩
      clear hK K hH3
      (try simp only [Act.put,xL4,xL5,xL6])
      refine xR [7,8] (h := ?_)
      refine xC (h := fun K hK => ?_) (hs := ?_)
      ·
       go_simp
       refine (qsub_at _ _ qd S (L + (L + 1) + 1) _ (hnd.at _ (by omega)) hS (by omega) (by omega) ht).mono ?_
       rintro e w34 ⟨v2,rfl,h2,b34⟩
       obtain ⟨p2,a2,n2,c2,b2,m2,d2,rfl⟩ := h2.open
       go_wp2_with fail
       replace hS := hS.below b34
       replace ht := ht.below b34
       replace hna := hna.below b34
       replace h1 := h1.below b34
       replace hnd := hnd.below b34
       replace VS := VS.below b34
       replace VL := VL.below b34
       replace VH := VH.below b34
       replace VU := VU.below b34
       replace BB := BB.trans (b34.mono BB.size)
       clear b34
       refine hK.out _ _ ?_ (fun hH5 => ?_)
       ·exact ⟨VS.1,VS.2.1,VS.2.2.1,VL.1,VL.2.1,VH.1,VH.2.1⟩
       clear hK K hH4
       (try simp only [Act.put,xL4,xL5,xL6])
       refine xR [8] (h := ?_)
       refine xN (h := fun K hK => ?_)
       go_simp
       have hZ64 : W6.heap.size ≤ w34.heap.size := BB.size
       have hN64VS : R2 ≠ w34.heap.size := Nat.ne_of_lt VS.lt
       have hN64VL : R3 ≠ w34.heap.size := Nat.ne_of_lt VL.lt
       have hN64VH : R3 + 1 ≠ w34.heap.size := Nat.ne_of_lt VH.lt
       have hN64VU : R63 ≠ w34.heap.size := Nat.ne_of_lt VU.lt
       obtain ⟨W64,hW64,hS64,hL64,VD⟩ := V3.lay w34 27 (.bool false) (.slice none 0 0) (.slice none 0 0)
       replace hS := hS.below hL64
       replace ht := ht.below hL64
       replace hna := hna.below hL64
       replace h1 := h1.below hL64
       replace hnd := hnd.below hL64
       replace h2 := h2.below hL64
       replace VS := VS.below hL64
       replace VL := VL.below hL64
       replace VH := VH.below hL64
       replace VU := VU.below hL64
       replace BB := BB.trans (hL64.mono BB.size)
       clear hL64
       rw [← hW64]
       generalize w34.heap.size = R64 at *
       clear hW64 hS64
       refine hK.out _ _ ?_ (fun hH6 => ?_)
       ·exact ⟨VS.1,VS.2.1,VS.2.2.1,VL.1,VL.2.1,VH.1,VH.2.1⟩
       clear hK K hH5
       (try simp only [Act.put,xL4,xL5,xL6])
       refine xR [10] (h := ?_)
       refine xN (h := fun K hK => ?_)
       have hKp := VD.keepJ (.bool p1) (.slice a1 n1 c1) (.slice b1 m1 d1)
       have VS_n := VS.other3 (R := R64) (by omega) (.bool p1) (.slice a1 n1 c1) (.slice b1 m1 d1)
       have VL_n := VL.other3 (R := R64) (by omega) (.bool p1) (.slice a1 n1 c1) (.slice b1 m1 d1)
       have VH_n := VH.other3 (R := R64) (by omega) (.bool p1) (.slice a1 n1 c1) (.slice b1 m1 d1)
       have VU_n := VU.other3 (R := R64) (by omega) (.bool p1) (.slice a1 n1 c1) (.slice b1 m1 d1)
       have VD_n := VD.same (.bool p1) (.slice a1 n1 c1) (.slice b1 m1 d1)
       have hS_n := hS.keep hKp
       have ht_n := ht.keep hKp
       have hna_n := hna.keep hKp
       have h1_n := h1.keep hKp
       have hnd_n := hnd.keep hKp
       have h2_n := h2.keep hKp
       have BB_n := below_store3 (R := R64) BB (by omega) (.bool p1) (.slice a1 n1 c1) (.slice b1 m1 d1)
       clear hKp
       obtain ⟨VD_0,VD_1,VD_2,VD_3,VD_4,VD_5⟩ := id VD
       go_simp
       clear VD_0 VD_1 VD_2 VD_3 VD_4 VD_5
       clear BB hS ht hna h1 hnd h2 VS VL VH VU VD
       generalize ((W64.setCell ⟨R64,0,none⟩ (.bool p1)).setCell ⟨R64,1,none⟩ (.slice a1 n1 c1)).setCell ⟨R64,2,none⟩ (.slice b1 m1 d1) = W65 at *
       have BB := BB_n
       have hS := hS_n
       have ht := ht_n
       have hna := hna_n
       have h1 := h1_n
       have hnd := hnd_n
       have h2 := h2_n
       have VS := VS_n
       have VL := VL_n
       have VH := VH_n
       have VU := VU_n
       have VD := VD_n
       clear BB_n hS_n ht_n hna_n h1_n hnd_n h2_n VS_n VL_n VH_n VU_n VD_n
       refine hK.out _ _ ?_ (fun hH7 => ?_)
       ·exact ⟨VS.1,VS.2.1,VS.2.2.1,VL.1,VL.2.1,VH.1,VH.2.1⟩
       clear hK K hH6
       (try simp only [Act.put,xL4,xL5,xL6])
       refine xR [11] (h := ?_)
       refine xN (h := fun K hK => ?_)
       have hKp := VU.keepJ (.bool p2) (.slice a2 n2 c2) (.slice b2 m2 d2)
       have VS_n := VS.other3 (R := R63) (by omega) (.bool p2) (.slice a2 n2 c2) (.slice b2 m2 d2)
       have VL_n := VL.other3 (R := R63) (by omega) (.bool p2) (.slice a2 n2 c2) (.slice b2 m2 d2)
       have VH_n := VH.other3 (R := R63) (by omega) (.bool p2) (.slice a2 n2 c2) (.slice b2 m2 d2)
       have VD_n := VD.other3 (R := R63) (by omega) (.bool p2) (.slice a2 n2 c2) (.slice b2 m2 d2)
       have VU_n := VU.same (.bool p2) (.slice a2 n2 c2) (.slice b2 m2 d2)
       have hS_n := hS.keep hKp
       have ht_n := ht.keep hKp
       have hna_n := hna.keep hKp
       have h1_n := h1.keep hKp
       have hnd_n := hnd.keep hKp
       have h2_n := h2.keep hKp
       have BB_n := below_store3 (R := R63) BB (by omega) (.bool p2) (.slice a2 n2 c2) (.slice b2 m2 d2)
       clear hKp
       obtain ⟨VU_0,VU_1,VU_2,VU_3,VU_4,VU_5⟩ := id VU
       go_simp
       clear VU_0 VU_1 VU_2 VU_3 VU_4 VU_5
       clear BB hS ht hna h1 hnd h2 VS VL VH VU VD
       generalize ((W65.setCell ⟨R63,0,none⟩ (.bool p2)).setCell ⟨R63,1,none⟩ (.slice a2 n2 c2)).setCell ⟨R63,2,none⟩ (.slice b2 m2 d2) = W66 at *
       have BB := BB_n
       have hS := hS_n
       have ht := ht_n
       have hna := hna_n
       have h1 := h1_n
       have hnd := hnd_n
       have h2 := h2_n
       have VS := VS_n
       have VL := VL_n
       have VH := VH_n
       have VU := VU_n
       have VD := VD_n
       clear BB_n hS_n ht_n hna_n h1_n hnd_n h2_n VS_n VL_n VH_n VU_n VD_n
       refine hK.out _ _ ?_ (fun hH8 => ?_)
       ·exact ⟨VS.1,VS.2.1,VS.2.2.1,VL.1,VL.2.1,VH.1,VH.2.1⟩
       clear hK K hH7
       (try simp only [Act.put,xL4,xL5,xL6])
       refine wpAnyH_done (by kernel_rfl) ?_ _
       clear hH8
       go_wp2_with fail
       go_meet
       exact ⟨R64,R63,p1,a1,n1,c1,b1,m1,d1,p2,a2,n2,c2,b2,m2,d2,rfl,rfl,VD,VU,h1,h2,BB⟩
      refine xC (h := fun K hK => ?_) (hs := ?_)
      ·
       go_simp
       have hZ67 : W6.heap.size ≤ w33.heap.size := BB.size
       have hN67VS : R2 ≠ w33.heap.size := Nat.ne_of_lt VS.lt
       have hN67VL : R3 ≠ w33.heap.size := Nat.ne_of_lt VL.lt
       have hN67VH : R3 + 1 ≠ w33.heap.size := Nat.ne_of_lt VH.lt
       have hN67VU : R63 ≠ w33.heap.size := Nat.ne_of_lt VU.lt
       obtain ⟨W67,hW67,hS67,hL67,VD⟩ := V3.lay w33 27 (.bool false) (.slice none 0 0) (.slice none 0 0)
       replace hS := hS.below hL67
       replace ht := ht.below hL67
       replace hna := hna.below hL67
       replace h1 := h1.below hL67
       replace hnd := hnd.below hL67
       replace VS := VS.below hL67
       replace VL := VL.below hL67
       replace VH := VH.below hL67
       replace VU := VU.below hL67
       replace BB := BB.trans (hL67.mono BB.size)
       clear hL67
       rw [← hW67]
       generalize w33.heap.size = R67 at *
       clear hW67 hS67
       refine hK.out _ _ ?_ (fun hH5 => ?_)
       ·exact ⟨VS.1,VS.2.1,VS.2.2.1,VL.1,VL.2.1,VH.1,VH.2.1⟩
       clear hK K hH4
       (try simp only [Act.put,xL4,xL5,xL6])
       refine xR [7] (h := ?_)
       refine xN (h := fun K hK => ?_)
       go_simp
       refine (qsub_at _ _ qd S (L + (L + 1) + 1) _ (hnd.at _ (by omega)) hS (by omega) (by omega) ht).mono ?_
       rintro e w35 ⟨v2,rfl,h2,b35⟩
       obtain ⟨p2,a2,n2,c2,b2,m2,d2,rfl⟩ := h2.open
       go_wp2_with fail
       replace hS := hS.below b35
       replace ht := ht.below b35
       replace hna := hna.below b35
       replace h1 := h1.below b35
       replace hnd := hnd.below b35
       replace VS := VS.below b35
       replace VL := VL.below b35
       replace VH := VH.below b35
       replace VU := VU.below b35
       replace VD := VD.below b35
       replace BB := BB.trans (b35.mono BB.size)
       clear b35
       refine hK.out _ _ ?_ (fun hH6 => ?_)
       ·exact ⟨VS.1,VS.2.1,VS.2.2.1,VL.1,VL.2.1,VH.1,VH.2.1⟩
       clear hK K hH5
       (try simp only [Act.put,xL4,xL5,xL6])
       refine xR [10] (h := ?_)
       refine xN (h := fun K hK => ?_)
       have hKp := VD.keepJ (.bool p1) (.slice a1 n1 c1) (.slice b1 m1 d1)
       have VS_n := VS.other3 (R := R67) (by omega) (.bool p1) (.slice a1 n1 c1) (.slice b1 m1 d1)
       have VL_n := VL.other3 (R := R67) (by omega) (.bool p1) (.slice a1 n1 c1) (.slice b1 m1 d1)
       have VH_n := VH.other3 (R := R67) (by omega) (.bool p1) (.slice a1 n1 c1) (.slice b1 m1 d1)
       have VU_n := VU.other3 (R := R67) (by omega) (.bool p1) (.slice a1 n1 c1) (.slice b1 m1 d1)
       have VD_n := VD.same (.bool p1) (.slice a1 n1 c1) (.slice b1 m1 d1)
       have hS_n := hS.keep hKp
       have ht_n := ht.keep hKp
       have hna_n := hna.keep hKp
       have h1_n := h1.keep hKp
       have hnd_n := hnd.keep hKp
       have h2_n := h2.keep hKp
       have BB_n := below_store3 (R := R67) BB (by omega) (.bool p1) (.slice a1 n1 c1) (.slice b1 m1 d1)
       clear hKp
       obtain ⟨VD_0,VD_1,VD_2,VD_3,VD_4,VD_5⟩ := id VD
       go_simp
       clear VD_0 VD_1 VD_2 VD_3 VD_4 VD_5
       clear BB hS ht hna h1 hnd h2 VS VL VH VU VD
       generalize ((w35.setCell ⟨R67,0,none⟩ (.bool p1)).setCell ⟨R67,1,none⟩ (.slice a1 n1 c1)).setCell ⟨R67,2,none⟩ (.slice b1 m1 d1) = W68 at *
       have BB := BB_n
       have hS := hS_n
       have ht := ht_n
       have hna := hna_n
       have h1 := h1_n
       have hnd := hnd_n
       have h2 := h2_n
       have VS := VS_n
       have VL := VL_n
       have VH := VH_n
       have VU := VU_n
       have VD := VD_n
       clear BB_n hS_n ht_n hna_n h1_n hnd_n h2_n VS_n VL_n VH_n VU_n VD_n
       refine hK.out _ _ ?_ (fun hH7 => ?_)
       ·exact ⟨VS.1,VS.2.1,VS.2.2.1,VL.1,VL.2.1,VH.1,VH.2.1⟩
       clear hK K hH6
       (try simp only [Act.put,xL4,xL5,xL6])
       refine xR [11] (h := ?_)
       refine xN (h := fun K hK => ?_)
       have hKp := VU.keepJ (.bool p2) (.slice a2 n2 c2) (.slice b2 m2 d2)
       have VS_n := VS.other3 (R := R63) (by omega) (.bool p2) (.slice a2 n2 c2) (.slice b2 m2 d2)
       have VL_n := VL.other3 (R := R63) (by omega) (.bool p2) (.slice a2 n2 c2) (.slice b2 m2 d2)
       have VH_n := VH.other3 (R := R63) (by omega) (.bool p2) (.slice a2 n2 c2) (.slice b2 m2 d2)
       have VD_n := VD.other3 (R := R63) (by omega) (.bool p2) (.slice a2 n2 c2) (.slice b2 m2 d2)
       have VU_n := VU.same (.bool p2) (.slice a2 n2 c2) (.slice b2 m2 d2)
       have hS_n := hS.keep hKp
       have ht_n := ht.keep hKp
       have hna_n := hna.keep hKp
       have h1_n := h1.keep hKp
       have hnd_n := hnd.keep hKp
       have h2_n := h2.keep hKp
       have BB_n := below_store3 (R := R63) BB (by omega) (.bool p2) (.slice a2 n2 c2) (.slice b2 m2 d2)
       clear hKp
       obtain ⟨VU_0,VU_1,VU_2,VU_3,VU_4,VU_5⟩ := id VU
       go_simp
       clear VU_0 VU_1 VU_2 VU_3 VU_4 VU_5
       clear BB hS ht hna h1 hnd h2 VS VL VH VU VD
       generalize ((W68.setCell ⟨R63,0,none⟩ (.bool p2)).setCell ⟨R63,1,none⟩ (.slice a2 n2 c2)).setCell ⟨R63,2,none⟩ (.slice b2 m2 d2) = W69 at *
       have BB := BB_n
       have hS := hS_n
       have ht := ht_n
       have hna := hna_n
       have h1 := h1_n
       have hnd := hnd_n
       have h2 := h2_n
       have VS := VS_n
       have VL := VL_n
       have VH := VH_n
       have VU := VU_n
       have VD := VD_n
       clear BB_n hS_n ht_n hna_n h1_n hnd_n h2_n VS_n VL_n VH_n VU_n VD_n
       refine hK.out _ _ ?_ (fun hH8 => ?_)
       ·exact ⟨VS.1,VS.2.1,VS.2.2.1,VL.1,VL.2.1,VH.1,VH.2.1⟩
       clear hK K hH7
       (try simp only [Act.put,xL4,xL5,xL6])
       refine wpAnyH_done (by kernel_rfl) ?_ _
       clear hH8
       go_wp2_with fail
       go_meet
       exact ⟨R67,R63,p1,a1,n1,c1,b1,m1,d1,p2,a2,n2,c2,b2,m2,d2,rfl,rfl,VD,VU,h1,h2,BB⟩
      exact AllReadyH.nil
     refine xC (h := fun K hK => ?_) (hs := ?_)
     ·
      go_simp
      have hZ70 : W6.heap.size ≤ w32.heap.size := BB.size
      have hN70VS : R2 ≠ w32.heap.size := Nat.ne_of_lt VS.lt
      have hN70VL : R3 ≠ w32.heap.size := Nat.ne_of_lt VL.lt
      have hN70VH : R3 + 1 ≠ w32.heap.size := Nat.ne_of_lt VH.lt
      have hN70VU : R63 ≠ w32.heap.size := Nat.ne_of_lt VU.lt
      obtain ⟨W70,hW70,hS70,hL70,VD⟩ := V3.lay w32 27 (.bool false) (.slice none 0 0) (.slice none 0 0)
      replace hS := hS.below hL70
      replace ht := ht.below hL70
      replace hna := hna.below hL70
      replace h1 := h1.below hL70
      replace VS := VS.below hL70
      replace VL := VL.below hL70
      replace VH := VH.below hL70
      replace VU := VU.below hL70
      replace BB := BB.trans (hL70.mono BB.size)
      clear hL70
      rw [← hW70]
      generalize w32.heap.size = R70 at *
      clear hW70 hS70
      refine hK.out _ _ ?_ (fun hH4 => ?_)
      ·exact ⟨VS.1,VS.2.1,VS.2.2.1,VL.1,VL.2.1,VH.1,VH.2.1⟩
      clear hK K hH3
      (try simp only [Act.put,xL4,xL5,xL6])
      refine xR [5] (h := ?_)
      refine xN (h := fun K hK => ?_)
      go_simp
      refine (number_at (D : Int) (E : Int) _ (by omega) (by omega) (by omega) (by omega) ht).mono ?_
      rintro e w36 ⟨nd,rfl,hnd,b36⟩
      rw [hqd] at hnd
      go_wp2_with fail
      replace hS := hS.below b36
      replace ht := ht.below b36
      replace hna := hna.below b36
      replace h1 := h1.below b36
      replace VS := VS.below b36
      replace VL := VL.below b36
      replace VH := VH.below b36
      replace VU := VU.below b36
      replace VD := VD.below b36
      replace BB := BB.trans (b36.mono BB.size)
      clear b36
      refine hK.out _ _ ?_ (fun hH5 => ?_)
      ·exact ⟨VS.1,VS.2.1,VS.2.2.1,VL.1,VL.2.1,VH.1,VH.2.1⟩
      clear hK K hH4
      (try simp only [Act.put,xL4,xL5,xL6])
      refine xR [7] (h := ?_)
      refine xN (h := fun K hK => ?_)
      go_simp
      refine (qsub_at _ _ qd S (L + (L + 1) + 1) _ (hnd.at _ (by omega)) hS (by omega) (by omega) ht).mono ?_
      rintro e w37 ⟨v2,rfl,h2,b37⟩
      obtain ⟨p2,a2,n2,c2,b2,m2,d2,rfl⟩ := h2.open
      go_wp2_with fail
      replace hS := hS.below b37
      replace ht := ht.below b37
      replace hna := hna.below b37
      replace h1 := h1.below b37
      replace hnd := hnd.below b37
      replace VS := VS.below b37
      replace VL := VL.below b37
      replace VH := VH.below b37
      replace VU := VU.below b37
      replace VD := VD.below b37
      replace BB := BB.trans (b37.mono BB.size)
      clear b37
      refine hK.out _ _ ?_ (fun hH6 => ?_)
      ·exact ⟨VS.1,VS.2.1,VS.2.2.1,VL.1,VL.2.1,VH.1,VH.2.1⟩
      clear hK K hH5
      (try simp only [Act.put,xL4,xL5,xL6])
      refine xR [10] (h := ?_)
      refine xN (h := fun K hK => ?_)
      have hKp := VD.keepJ (.bool p1) (.slice a1 n1 c1) (.slice b1 m1 d1)
      have VS_n := VS.other3 (R := R70) (by omega) (.bool p1) (.slice a1 n1 c1) (.slice b1 m1 d1)
      have VL_n := VL.other3 (R := R70) (by omega) (.bool p1) (.slice a1 n1 c1) (.slice b1 m1 d1)
      have VH_n := VH.other3 (R := R70) (by omega) (.bool p1) (.slice a1 n1 c1) (.slice b1 m1 d1)
      have VU_n := VU.other3 (R := R70) (by omega) (.bool p1) (.slice a1 n1 c1) (.slice b1 m1 d1)
      have VD_n := VD.same (.bool p1) (.slice a1 n1 c1) (.slice b1 m1 d1)
      have hS_n := hS.keep hKp
      have ht_n := ht.keep hKp
      have hna_n := hna.keep hKp
      have h1_n := h1.keep hKp
      have hnd_n := hnd.keep hKp
      have h2_n := h2.keep hKp
      have BB_n := below_store3 (R := R70) BB (by omega) (.bool p1) (.slice a1 n1 c1) (.slice b1 m1 d1)
      clear hKp
      obtain ⟨VD_0,VD_1,VD_2,VD_3,VD_4,VD_5⟩ := id VD
      go_simp
      clear VD_0 VD_1 VD_2 VD_3 VD_4 VD_5
      clear BB hS ht hna h1 hnd h2 VS VL VH VU VD
      generalize ((w37.setCell ⟨R70,0,none⟩ (.bool p1)).setCell ⟨R70,1,none⟩ (.slice a1 n1 c1)).setCell ⟨R70,2,none⟩ (.slice b1 m1 d1) = W71 at *
      have BB := BB_n
      have hS := hS_n
      have ht := ht_n
      have hna := hna_n
      have h1 := h1_n
      have hnd := hnd_n
      have h2 := h2_n
      have VS := VS_n
      have VL := VL_n
      have VH := VH_n
      have VU := VU_n
      have VD := VD_n
      clear BB_n hS_n ht_n hna_n h1_n hnd_n h2_n VS_n VL_n VH_n VU_n VD_n
      refine hK.out _ _ ?_ (fun hH7 => ?_)
      ·exact ⟨VS.1,VS.2.1,VS.2.2.1,VL.1,VL.2.1,VH.1,VH.2.1⟩
      clear hK K hH6
      (try simp only [Act.put,xL4,xL5,xL6])
      refine xR [11] (h := ?_)
      refine xN (h := fun K hK => ?_)
      have hKp := VU.keepJ (.bool p2) (.slice a2 n2 c2) (.slice b2 m2 d2)
      have VS_n := VS.other3 (R := R63) (by omega) (.bool p2) (.slice a2 n2 c2) (.slice b2 m2 d2)
      have VL_n := VL.other3 (R := R63) (by omega) (.bool p2) (.slice a2 n2 c2) (.slice b2 m2 d2)
      have VH_n := VH.other3 (R := R63) (by omega) (.bool p2) (.slice a2 n2 c2) (.slice b2 m2 d2)
      have VD_n := VD.other3 (R := R63) (by omega) (.bool p2) (.slice a2 n2 c2) (.slice b2 m2 d2)
      have VU_n := VU.same (.bool p2) (.slice a2 n2 c2) (.slice b2 m2 d2)
      have hS_n := hS.keep hKp
      have ht_n := ht.keep hKp
      have hna_n := hna.keep hKp
      have h1_n := h1.keep hKp
      have hnd_n := hnd.keep hKp
      have h2_n := h2.keep hKp
      have BB_n := below_store3 (R := R63) BB (by omega) (.bool p2) (.slice a2 n2 c2) (.slice b2 m2 d2)
      clear hKp
      obtain ⟨VU_0,VU_1,VU_2,VU_3,VU_4,VU_5⟩ := id VU
      go_simp
      clear VU_0 VU_1 VU_2 VU_3 VU_4 VU_5
      clear BB hS ht hna h1 hnd h2 VS VL VH VU VD
      generalize ((W71.setCell ⟨R63,0,none⟩ (.bool p2)).setCell ⟨R63,1,none⟩ (.slice a2 n2 c2)).setCell ⟨R63,2,none⟩ (.slice b2 m2 d2) = W72 at *
      have BB := BB_n
      have hS := hS_n
      have ht := ht_n
      have hna := hna_n
      have h1 := h1_n
      have hnd := hnd_n
      have h2 := h2_n
      have VS := VS_n
      have VL := VL_n
      have VH := VH_n
      have VU := VU_n
      have VD := VD_n
      clear BB_n hS_n ht_n hna_n h1_n hnd_n h2_n VS_n VL_n VH_n VU_n VD_n
      refine hK.out _ _ ?_ (fun hH8 => ?_)
      ·exact ⟨VS.1,VS.2.1,VS.2.2.1,VL.1,VL.2.1,VH.1,VH.2.1⟩
      clear hK K hH7
      (try simp only [Act.put,xL4,xL5,xL6])
      refine wpAnyH_done (by kernel_rfl) ?_ _
      clear hH8
      go_wp2_with fail
      go_meet
      exact ⟨R70,R63,p1,a1,n1,c1,b1,m1,d1,p2,a2,n2,c2,b2,m2,d2,rfl,rfl,VD,VU,h1,h2,BB⟩
     exact AllReadyH.nil
    refine xC (h := fun K hK => ?_) (hs := ?_)
    ·
     go_simp
     have hZ73 : W6.heap.size ≤ W63.heap.size := BB.size
     have hN73VS : R2 ≠ W63.heap.size := Nat.ne_of_lt VS.lt
     have hN73VL : R3 ≠ W63.heap.size := Nat.ne_of_lt VL.lt
     have hN73VH : R3 + 1 ≠ W63.heap.size := Nat.ne_of_lt VH.lt
     have hN73VU : R63 ≠ W63.heap.size := Nat.ne_of_lt VU.lt
     obtain ⟨W73,hW73,hS73,hL73,VD⟩ := V3.lay W63 27 (.bool false) (.slice none 0 0) (.slice none 0 0)
     replace hS := hS.below hL73
     replace ht := ht.below hL73
     replace hna := hna.below hL73
     replace VS := VS.below hL73
     replace VL := VL.below hL73
     replace VH := VH.below hL73
     replace VU := VU.below hL73
     replace BB := BB.trans (hL73.mono BB.size)
     clear hL73
     rw [← hW73]
     generalize W63.heap.size = R73 at *
     clear hW73 hS73
     refine hK.out _ _ ?_ (fun hH3 => ?_)
     ·exact ⟨VS.1,VS.2.1,VS.2.2.1,VL.1,VL.2.1,VH.1,VH.2.1⟩
     clear hK K hH2
     (try simp only [Act.put,xL4,xL5,xL6])
     refine xR [3] (h := ?_)
     refine xN (h := fun K hK => ?_)
     go_simp
     refine (qsub_at _ _ S qa (L + (L + 1) + 1) _ hS (hna.at _ (by omega)) (by omega) (by omega) ht).mono ?_
     rintro e w38 ⟨v1,rfl,h1,b38⟩
     obtain ⟨p1,a1,n1,c1,b1,m1,d1,rfl⟩ := h1.open
     go_wp2_with fail
     replace hS := hS.below b38
     replace ht := ht.below b38
     replace hna := hna.below b38
     replace VS := VS.below b38
     replace VL := VL.below b38
     replace VH := VH.below b38
     replace VU := VU.below b38
     replace VD := VD.below b38
     replace BB := BB.trans (b38.mono BB.size)
     clear b38
     refine hK.out _ _ ?_ (fun hH4 => ?_)
     ·exact ⟨VS.1,VS.2.1,VS.2.2.1,VL.1,VL.2.1,VH.1,VH.2.1⟩
     clear hK K hH3
     (try simp only [Act.put,xL4,xL5,xL6])
     refine xR [5] (h := ?_)
     refine xN (h := fun K hK => ?_)
     go_simp
     refine (number_at (D : Int) (E : Int) _ (by omega) (by omega) (by omega) (by omega) ht).mono ?_
     rintro e w39 ⟨nd,rfl,hnd,b39⟩
     rw [hqd] at hnd
     go_wp2_with fail
     replace hS := hS.below b39
     replace ht := ht.below b39
     replace hna := hna.below b39
     replace h1 := h1.below b39
     replace VS := VS.below b39
     replace VL := VL.below b39
     replace VH := VH.below b39
     replace VU := VU.below b39
     replace VD := VD.below b39
     replace BB := BB.trans (b39.mono BB.size)
     clear b39
     refine hK.out _ _ ?_ (fun hH5 => ?_)
     ·exact ⟨VS.1,VS.2.1,VS.2.2.1,VL.1,VL.2.1,VH.1,VH.2.1⟩
     clear hK K hH4
     (try simp only [Act.put,xL4,xL5,xL6])
     refine xR [7] (h := ?_)
     refine xN (h := fun K hK => ?_)
     go_simp
     refine (qsub_at _ _ qd S (L + (L + 1) + 1) _ (hnd.at _ (by omega)) hS (by omega) (by omega) ht).mono ?_
     rintro e w40 ⟨v2,rfl,h2,b40⟩
     obtain ⟨p2,a2,n2,c2,b2,m2,d2,rfl⟩ := h2.open
     go_wp2_with fail
     replace hS := hS.below b40
     replace ht := ht.below b40
     replace hna := hna.below b40
     replace h1 := h1.below b40
     replace hnd := hnd.below b40
     replace VS := VS.below b40
     replace VL := VL.below b40
     replace VH := VH.below b40
     replace VU := VU.below b40
     replace VD := VD.below b40
     replace BB := BB.trans (b40.mono BB.size)
     clear b40
     refine hK.out _ _ ?_ (fun hH6 => ?_)
     ·exact ⟨VS.1,VS.2.1,VS.2.2.1,VL.1,VL.2.1,VH.1,VH.2.1⟩
     clear hK K hH5
     (try simp only [Act.put,xL4,xL5,xL6])
     refine xR [10] (h := ?_)
     refine xN (h := fun K hK => ?_)
     have hKp := VD.keepJ (.bool p1) (.slice a1 n1 c1) (.slice b1 m1 d1)
     have VS_n := VS.other3 (R := R73) (by omega) (.bool p1) (.slice a1 n1 c1) (.slice b1 m1 d1)
     have VL_n := VL.other3 (R := R73) (by omega) (.bool p1) (.slice a1 n1 c1) (.slice b1 m1 d1)
     have VH_n := VH.other3 (R := R73) (by omega) (.bool p1) (.slice a1 n1 c1) (.slice b1 m1 d1)
     have VU_n := VU.other3 (R := R73) (by omega) (.bool p1) (.slice a1 n1 c1) (.slice b1 m1 d1)
     have VD_n := VD.same (.bool p1) (.slice a1 n1 c1) (.slice b1 m1 d1)
     have hS_n := hS.keep hKp
     have ht_n := ht.keep hKp
     have hna_n := hna.keep hKp
     have h1_n := h1.keep hKp
     have hnd_n := hnd.keep hKp
     have h2_n := h2.keep hKp
     have BB_n := below_store3 (R := R73) BB (by omega) (.bool p1) (.slice a1 n1 c1) (.slice b1 m1 d1)
     clear hKp
     obtain ⟨VD_0,VD_1,VD_2,VD_3,VD_4,VD_5⟩ := id VD
     go_simp
     clear VD_0 VD_1 VD_2 VD_3 VD_4 VD_5
     clear BB hS ht hna h1 hnd h2 VS VL VH VU VD
     generalize ((w40.setCell ⟨R73,0,none⟩ (.bool p1)).setCell ⟨R73,1,none⟩ (.slice a1 n1 c1)).setCell ⟨R73,2,none⟩ (.slice b1 m1 d1) = W74 at *
     have BB := BB_n
     have hS := hS_n
     have ht := ht_n
     have hna := hna_n
     have h1 := h1_n
     have hnd := hnd_n
     have h2 := h2_n
     have VS := VS_n
     have VL := VL_n
     have VH := VH_n
     have VU := VU_n
     have VD := VD_n
     clear BB_n hS_n ht_n hna_n h1_n hnd_n h2_n VS_n VL_n VH_n VU_n VD_n
     refine hK.out _ _ ?_ (fun hH7 => ?_)
     ·exact ⟨VS.1,VS.2.1,VS.2.2.1,VL.1,VL.2.1,VH.1,VH.2.1⟩
     clear hK K hH6
     (try simp only [Act.put,xL4,xL5,xL6])
     refine xR [11] (h := ?_)
     refine xN (h := fun K hK => ?_)
     have hKp := VU.keepJ (.bool p2) (.slice a2 n2 c2) (.slice b2 m2 d2)
     have VS_n := VS.other3 (R := R63) (by omega) (.bool p2) (.slice a2 n2 c2) (.slice b2 m2 d2)
     have VL_n := VL.other3 (R := R63) (by omega) (.bool p2) (.slice a2 n2 c2) (.slice b2 m2 d2)
     have VH_n := VH.other3 (R := R63) (by omega) (.bool p2) (.slice a2 n2 c2) (.slice b2 m2 d2)
     have VD_n := VD.other3 (R := R63) (by omega) (.bool p2) (.slice a2 n2 c2) (.slice b2 m2 d2)
     have VU_n := VU.same (.bool p2) (.slice a2 n2 c2) (.slice b2 m2 d2)
     have hS_n := hS.keep hKp
     have ht_n := ht.keep hKp
     have hna_n := hna.keep hKp
     have h1_n := h1.keep hKp
     have hnd_n := hnd.keep hKp
     have h2_n := h2.keep hKp
     have BB_n := below_store3 (R := R63) BB (by omega) (.bool p2) (.slice a2 n2 c2) (.slice b2 m2 d2)
     clear hKp
     obtain ⟨VU_0,VU_1,VU_2,VU_3,VU_4,VU_5⟩ := id VU
     go_simp
     clear VU_0 VU_1 VU_2 VU_3 VU_4 VU_5
     clear BB hS ht hna h1 hnd h2 VS VL VH VU VD
     generalize ((W74.setCell ⟨R63,0,none⟩ (.bool p2)).setCell ⟨R63,1,none⟩ (.slice a2 n2 c2)).setCell ⟨R63,2,none⟩ (.slice b2 m2 d2) = W75 at *
     have BB := BB_n
     have hS := hS_n
     have ht := ht_n
     have hna := hna_n
     have h1 := h1_n
     have hnd := hnd_n
     have h2 := h2_n
     have VS := VS_n
     have VL := VL_n
     have VH := VH_n
     have VU := VU_n
     have VD := VD_n
     clear BB_n hS_n ht_n hna_n h1_n hnd_n h2_n VS_n VL_n VH_n VU_n VD_n
     refine hK.out _ _ ?_ (fun hH8 => ?_)
     ·exact ⟨VS.1,VS.2.1,VS.2.2.1,VL.1,VL.2.1,VH.1,VH.2.1⟩
     clear hK K hH7
     (try simp only [Act.put,xL4,xL5,xL6])
     refine wpAnyH_done (by kernel_rfl) ?_ _
     clear hH8
     go_wp2_with fail
     go_meet
     exact ⟨R73,R63,p1,a1,n1,c1,b1,m1,d1,p2,a2,n2,c2,b2,m2,d2,rfl,rfl,VD,VU,h1,h2,BB⟩
    exact AllReadyH.nil
   exact AllReadyH.nil
  refine xC (h := fun K hK => ?_) (hs := ?_)
  ·
   go_simp
   have hZ76 : W6.heap.size ≤ W7.heap.size := BB.size
   have hN76VS : R2 ≠ W7.heap.size := Nat.ne_of_lt VS.lt
   have hN76VL : R3 ≠ W7.heap.size := Nat.ne_of_lt VL.lt
   have hN76VH : R3 + 1 ≠ W7.heap.size := Nat.ne_of_lt VH.lt
   obtain ⟨W76,hW76,hS76,hL76,VD⟩ := V3.lay W7 27 (.bool false) (.slice none 0 0) (.slice none 0 0)
   replace hS := hS.below hL76
   replace ht := ht.below hL76
   replace VS := VS.below hL76
   replace VL := VL.below hL76
   replace VH := VH.below hL76
   replace BB := BB.trans (hL76.mono BB.size)
   clear hL76
   rw [← hW76]
   generalize W7.heap.size = R76 at *
   clear hW76 hS76
   refine hK.out _ _ ?_ (fun hH1 => ?_)
   ·exact ⟨VS.1,VS.2.1,VS.2.2.1,VL.1,VL.2.1,VH.1,VH.2.1⟩
   clear hK K hHeld
   (try simp only [Act.put,xL4,xL5,xL6])
   refine xR [2,9] (h := ?_)
   refine xC (h := fun K hK => ?_) (hs := ?_)
   ·
    go_simp
    refine (number_at (A : Int) (C : Int) _ (by omega) (by omega) (by omega) (by omega) ht).mono ?_
    rintro e w41 ⟨na,rfl,hna,b41⟩
    rw [hqa] at hna
    go_wp2_with fail
    replace hS := hS.below b41
    replace ht := ht.below b41
    replace VS := VS.below b41
    replace VL := VL.below b41
    replace VH := VH.below b41
    replace VD := VD.below b41
    replace BB := BB.trans (b41.mono BB.size)
    clear b41
    refine hK.out _ _ ?_ (fun hH2 => ?_)
    ·exact ⟨VS.1,VS.2.1,VS.2.2.1,VL.1,VL.2.1,VH.1,VH.2.1⟩
    clear hK K hH1
    (try simp only [Act.put,xL4,xL5,xL6])
    refine xR [3,9] (h := ?_)
    refine xC (h := fun K hK => ?_) (hs := ?_)
    ·
     go_simp
     refine (qsub_at _ _ S qa (L + (L + 1) + 1) _ hS (hna.at _ (by omega)) (by omega) (by omega) ht).mono ?_
     rintro e w42 ⟨v1,rfl,h1,b42⟩
     obtain ⟨p1,a1,n1,c1,b1,m1,d1,rfl⟩ := h1.open
     go_wp2_with fail
     replace hS := hS.below b42
     replace ht := ht.below b42
     replace hna := hna.below b42
     replace VS := VS.below b42
     replace VL := VL.below b42
     replace VH := VH.below b42
     replace VD := VD.below b42
     replace BB := BB.trans (b42.mono BB.size)
     clear b42
     refine hK.out _ _ ?_ (fun hH3 => ?_)
     ·exact ⟨VS.1,VS.2.1,VS.2.2.1,VL.1,VL.2.1,VH.1,VH.2.1⟩
     clear hK K hH2
     (try simp only [Act.put,xL4,xL5,xL6])
     refine xR [5,9] (h := ?_)
     refine xC (h := fun K hK => ?_) (hs := ?_)
     ·
      go_simp
      refine (number_at (D : Int) (E : Int) _ (by omega) (by omega) (by omega) (by omega) ht).mono ?_
      rintro e w43 ⟨nd,rfl,hnd,b43⟩
      rw [hqd] at hnd
      go_wp2_with fail
      replace hS := hS.below b43
      replace ht := ht.below b43
      replace hna := hna.below b43
      replace h1 := h1.below b43
      replace VS := VS.below b43
      replace VL := VL.below b43
      replace VH := VH.below b43
      replace VD := VD.below b43
      replace BB := BB.trans (b43.mono BB.size)
      clear b43
      refine hK.out _ _ ?_ (fun hH4 => ?_)
      ·exact ⟨VS.1,VS.2.1,VS.2.2.1,VL.1,VL.2.1,VH.1,VH.2.1⟩
      clear hK K hH3
      (try simp only [Act.put,xL4,xL5,xL6])
      refine xR [7,9] (h := ?_)
      refine xC (h := fun K hK => ?_) (hs := ?_)
      ·
       go_simp
       refine (qsub_at _ _ qd S (L + (L + 1) + 1) _ (hnd.at _ (by omega)) hS (by omega) (by omega) ht).mono ?_
       rintro e w44 ⟨v2,rfl,h2,b44⟩
       obtain ⟨p2,a2,n2,c2,b2,m2,d2,rfl⟩ := h2.open
       go_wp2_with fail
       replace hS := hS.below b44
       replace ht := ht.below b44
       replace hna := hna.below b44
       replace h1 := h1.below b44
       replace hnd := hnd.below b44
       replace VS := VS.below b44
       replace VL := VL.below b44
       replace VH := VH.below b44
       replace VD := VD.below b44
       replace BB := BB.trans (b44.mono BB.size)
       clear b44
       refine hK.out _ _ ?_ (fun hH5 => ?_)
       ·exact ⟨VS.1,VS.2.1,VS.2.2.1,VL.1,VL.2.1,VH.1,VH.2.1⟩
       clear hK K hH4
       (try simp only [Act.put,xL4,xL5,xL6])
       refine xR [9] (h := ?_)
       refine xN (h := fun K hK => ?_)
       go_simp
       have hZ77 : W6.heap.size ≤ w44.heap.size := BB.size
       have hN77VS : R2 ≠ w44.heap.size := Nat.ne_of_lt VS.lt
       have hN77VL : R3 ≠ w44.heap.size := Nat.ne_of_lt VL.lt
       have hN77VH : R3 + 1 ≠ w44.heap.size := Nat.ne_of_lt VH.lt
       have hN77VD : R76 ≠ w44.heap.size := Nat.ne_of_lt VD.lt
       obtain ⟨W77,hW77,hS77,hL77,VU⟩ := V3.lay w44 27 (.bool false) (.slice none 0 0) (.slice none 0 0)
       replace hS := hS.below hL77
       replace ht := ht.below hL77
       replace hna := hna.below hL77
       replace h1 := h1.below hL77
       replace hnd := hnd.below hL77
       replace h2 := h2.below hL77
       replace VS := VS.below hL77
       replace VL := VL.below hL77
       replace VH := VH.below hL77
       replace VD := VD.below hL77
       replace BB := BB.trans (hL77.mono BB.size)
       clear hL77
       rw [← hW77]
       generalize w44.heap.size = R77 at *
       clear hW77 hS77
       refine hK.out _ _ ?_ (fun hH6 => ?_)
       ·exact ⟨VS.1,VS.2.1,VS.2.2.1,VL.1,VL.2.1,VH.1,VH.2.1⟩
       clear hK K hH5
       (try simp only [Act.put,xL4,xL5,xL6])
       refine xR [10] (h := ?_)
       refine xN (h := fun K hK => ?_)
       have hKp := VD.keepJ (.bool p1) (.slice a1 n1 c1) (.slice b1 m1 d1)
       have VS_n := VS.other3 (R := R76) (by omega) (.bool p1) (.slice a1 n1 c1) (.slice b1 m1 d1)
       have VL_n := VL.other3 (R := R76) (by omega) (.bool p1) (.slice a1 n1 c1) (.slice b1 m1 d1)
       have VH_n := VH.other3 (R := R76) (by omega) (.bool p1) (.slice a1 n1 c1) (.slice b1 m1 d1)
       have VU_n := VU.other3 (R := R76) (by omega) (.bool p1) (.slice a1 n1 c1) (.slice b1 m1 d1)
       have VD_n := VD.same (.bool p1) (.slice a1 n1 c1) (.slice b1 m1 d1)
       have hS_n := hS.keep hKp
       have ht_n := ht.keep hKp
       have hna_n := hna.keep hKp
       have h1_n := h1.keep hKp
       have hnd_n := hnd.keep hKp
       have h2_n := h2.keep hKp
       have BB_n := below_store3 (R := R76) BB (by omega) (.bool p1) (.slice a1 n1 c1) (.slice b1 m1 d1)
       clear hKp
       obtain ⟨VD_0,VD_1,VD_2,VD_3,VD_4,VD_5⟩ := id VD
       go_simp
       clear VD_0 VD_1 VD_2 VD_3 VD_4 VD_5
       clear BB hS ht hna h1 hnd h2 VS VL VH VD VU
       generalize ((W77.setCell ⟨R76,0,none⟩ (.bool p1)).setCell ⟨R76,1,none⟩ (.slice a1 n1 c1)).setCell ⟨R76,2,none⟩ (.slice b1 m1 d1) = W78 at *
       have BB := BB_n
       have hS := hS_n
       have ht := ht_n
       have hna := hna_n
       have h1 := h1_n
       have hnd := hnd_n
       have h2 := h2_n
       have VS := VS_n
       have VL := VL_n
       have VH := VH_n
       have VD := VD_n
       have VU := VU_n
       clear BB_n hS_n ht_n hna_n h1_n hnd_n h2_n VS_n VL_n VH_n VD_n VU_n
       refine hK.out _ _ ?_ (fun hH7 => ?_)
       ·exact ⟨VS.1,VS.2.1,VS.2.2.1,VL.1,VL.2.1,VH.1,VH.2.1⟩
       clear hK K hH6
       (try simp only [Act.put,xL4,xL5,xL6])
       refine xR [11] (h := ?_)
       refine xN (h := fun K hK => ?_)
       have hKp := VU.keepJ (.bool p2) (.slice a2 n2 c2) (.slice b2 m2 d2)
       have VS_n := VS.other3 (R := R77) (by omega) (.bool p2) (.slice a2 n2 c2) (.slice b2 m2 d2)
       have VL_n := VL.other3 (R := R77) (by omega) (.bool p2) (.slice a2 n2 c2) (.slice b2 m2 d2)
       have VH_n := VH.other3 (R := R77) (by omega) (.bool p2) (.slice a2 n2 c2) (.slice b2 m2 d2)
       have VD_n := VD.other3 (R := R77) (by omega) (.bool p2) (.slice a2 n2 c2) (.slice b2 m2 d2)
       have VU_n := VU.same (.bool p2) (.slice a2 n2 c2) (.slice b2 m2 d2)
       have hS_n := hS.keep hKp
       have ht_n := ht.keep hKp
       have hna_n := hna.keep hKp
       have h1_n := h1.keep hKp
       have hnd_n := hnd.keep hKp
       have h2_n := h2.keep hKp
       have BB_n := below_store3 (R := R77) BB (by omega) (.bool p2) (.slice a2 n2 c2) (.slice b2 m2 d2)
       clear hKp
       obtain ⟨VU_0,VU_1,VU_2,VU_3,VU_4,VU_5⟩ := id VU
       go_simp
       clear VU_0 VU_1 VU_2 VU_3 VU_4 VU_5
       clear BB hS ht hna h1 hnd h2 VS VL VH VD VU
       generalize ((W78.setCell ⟨R77,0,none⟩ (.bool p2)).setCell ⟨R77,1,none⟩ (.slice a2 n2 c2)).setCell ⟨R77,2,none⟩ (.slice b2 m2 d2) = W79 at *
       have BB := BB_n
       have hS := hS_n
       have ht := ht_n
       have hna := hna_n
       have h1 := h1_n
       have hnd := hnd_n
       have h2 := h2_n
       have VS := VS_n
       have VL := VL_n
       have VH := VH_n
       have VD := VD_n
       have VU := VU_n
       clear BB_n hS_n ht_n hna_n h1_n hnd_n h2_n VS_n VL_n VH_n VD_n VU_n
       refine hK.out _ _ ?_ (fun hH8 => ?_)
       ·exact ⟨VS.1,VS.2.1,VS.2.2.1,VL.1,VL.2.1,VH.1,VH.2.1⟩
       clear hK K hH7
       (try simp only [Act.put,xL4,xL5,xL6])
       refine wpAnyH_done (by kernel_rfl) ?_ _
       clear hH8
       go_wp2_with fail
       go_meet
       exact ⟨R76,R77,p1,a1,n1,c1,b1,m1,d1,p2,a2,n2,c2,b2,m2,d2,rfl,rfl,VD,VU,h1,h2,BB⟩
      refine xC (h := fun K hK => ?_) (hs := ?_)
      ·
       go_simp
       have hZ80 : W6.heap.size ≤ w43.heap.size := BB.size
       have hN80VS : R2 ≠ w43.heap.size := Nat.ne_of_lt VS.lt
       have hN80VL : R3 ≠ w43.heap.size := Nat.ne_of_lt VL.lt
       have hN80VH : R3 + 1 ≠ w43.heap.size := Nat.ne_of_lt VH.lt
       have hN80VD : R76 ≠ w43.heap.size := Nat.ne_of_lt VD.lt
       obtain ⟨W80,hW80,hS80,hL80,VU⟩ := V3.lay w43 27 (.bool false) (.slice none 0 0) (.slice none 0 0)
       replace hS := hS.below hL80
       replace ht := ht.below hL80
       replace hna := hna.below hL80
       replace h1 := h1.below hL80
       replace hnd := hnd.below hL80
       replace VS := VS.below hL80
       replace VL := VL.below hL80
       replace VH := VH.below hL80
       replace VD := VD.below hL80
       replace BB := BB.trans (hL80.mono BB.size)
       clear hL80
       rw [← hW80]
       generalize w43.heap.size = R80 at *
       clear hW80 hS80
       refine hK.out _ _ ?_ (fun hH5 => ?_)
       ·exact ⟨VS.1,VS.2.1,VS.2.2.1,VL.1,VL.2.1,VH.1,VH.2.1⟩
       clear hK K hH4
       (try simp only [Act.put,xL4,xL5,xL6])
       refine xR [7] (h := ?_)
       refine xN (h := fun K hK => ?_)
       go_simp
       refine (qsub_at _ _ qd S (L + (L + 1) + 1) _ (hnd.at _ (by omega)) hS (by omega) (by omega) ht).mono ?_
       rintro e w45 ⟨v2,rfl,h2,b45⟩
       obtain ⟨p2,a2,n2,c2,b2,m2,d2,rfl⟩ := h2.open
       go_wp2_with fail
       replace hS := hS.below b45
       replace ht := ht.below b45
       replace hna := hna.below b45
       replace h1 := h1.below b45
       replace hnd := hnd.below b45
       replace VS := VS.below b45
       replace VL := VL.below b45
       replace VH := VH.below b45
       replace VD := VD.below b45
       replace VU := VU.below b45
       replace BB := BB.trans (b45.mono BB.size)
       clear b45
       refine hK.out _ _ ?_ (fun hH6 => ?_)
       ·exact ⟨VS.1,VS.2.1,VS.2.2.1,VL.1,VL.2.1,VH.1,VH.2.1⟩
       clear hK K hH5
       (try simp only [Act.put,xL4,xL5,xL6])
       refine xR [10] (h := ?_)
       refine xN (h := fun K hK => ?_)
       have hKp := VD.keepJ (.bool p1) (.slice a1 n1 c1) (.slice b1 m1 d1)
       have VS_n := VS.other3 (R := R76) (by omega) (.bool p1) (.slice a1 n1 c1) (.slice b1 m1 d1)
       have VL_n := VL.other3 (R := R76) (by omega) (.bool p1) (.slice a1 n1 c1) (.slice b1 m1 d1)
       have VH_n := VH.other3 (R := R76) (by omega) (.bool p1) (.slice a1 n1 c1) (.slice b1 m1 d1)
       have VU_n := VU.other3 (R := R76) (by omega) (.bool p1) (.slice a1 n1 c1) (.slice b1 m1 d1)
       have VD_n := VD.same (.bool p1) (.slice a1 n1 c1) (.slice b1 m1 d1)
       have hS_n := hS.keep hKp
       have ht_n := ht.keep hKp
       have hna_n := hna.keep hKp
       have h1_n := h1.keep hKp
       have hnd_n := hnd.keep hKp
       have h2_n := h2.keep hKp
       have BB_n := below_store3 (R := R76) BB (by omega) (.bool p1) (.slice a1 n1 c1) (.slice b1 m1 d1)
       clear hKp
       obtain ⟨VD_0,VD_1,VD_2,VD_3,VD_4,VD_5⟩ := id VD
       go_simp
       clear VD_0 VD_1 VD_2 VD_3 VD_4 VD_5
       clear BB hS ht hna h1 hnd h2 VS VL VH VD VU
       generalize ((w45.setCell ⟨R76,0,none⟩ (.bool p1)).setCell ⟨R76,1,none⟩ (.slice a1 n1 c1)).setCell ⟨R76,2,none⟩ (.slice b1 m1 d1) = W81 at *
       have BB := BB_n
       have hS := hS_n
       have ht := ht_n
       have hna := hna_n
       have h1 := h1_n
       have hnd := hnd_n
       have h2 := h2_n
       have VS := VS_n
       have VL := VL_n
       have VH := VH_n
       have VD := VD_n
       have VU := VU_n
       clear BB_n hS_n ht_n hna_n h1_n hnd_n h2_n VS_n VL_n VH_n VD_n VU_n
       refine hK.out _ _ ?_ (fun hH7 => ?_)
       ·exact ⟨VS.1,VS.2.1,VS.2.2.1,VL.1,VL.2.1,VH.1,VH.2.1⟩
       clear hK K hH6
       (try simp only [Act.put,xL4,xL5,xL6])
       refine xR [11] (h := ?_)
       refine xN (h := fun K hK => ?_)
       have hKp := VU.keepJ (.bool p2) (.slice a2 n2 c2) (.slice b2 m2 d2)
       have VS_n := VS.other3 (R := R80) (by omega) (.bool p2) (.slice a2 n2 c2) (.slice b2 m2 d2)
       have VL_n := VL.other3 (R := R80) (by omega) (.bool p2) (.slice a2 n2 c2) (.slice b2 m2 d2)
       have VH_n := VH.other3 (R := R80) (by omega) (.bool p2) (.slice a2 n2 c2) (.slice b2 m2 d2)
       have VD_n := VD.other3 (R := R80) (by omega) (.bool p2) (.slice a2 n2 c2) (.slice b2 m2 d2)
       have VU_n := VU.same (.bool p2) (.slice a2 n2 c2) (.slice b2 m2 d2)
       have hS_n := hS.keep hKp
       have ht_n := ht.keep hKp
       have hna_n := hna.keep hKp
       have h1_n := h1.keep hKp
       have hnd_n := hnd.keep hKp
       have h2_n := h2.keep hKp
       have BB_n := below_store3 (R := R80) BB (by omega) (.bool p2) (.slice a2 n2 c2) (.slice b2 m2 d2)
       clear hKp
       obtain ⟨VU_0,VU_1,VU_2,VU_3,VU_4,VU_5⟩ := id VU
       go_simp
       clear VU_0 VU_1 VU_2 VU_3 VU_4 VU_5
       clear BB hS ht hna h1 hnd h2 VS VL VH VD VU
       generalize ((W81.setCell ⟨R80,0,none⟩ (.bool p2)).setCell ⟨R80,1,none⟩ (.slice a2 n2 c2)).setCell ⟨R80,2,none⟩ (.slice b2 m2 d2) = W82 at *
       have BB := BB_n
       have hS := hS_n
       have ht := ht_n
       have hna := hna_n
       have h1 := h1_n
       have hnd := hnd_n
       have h2 := h2_n
       have VS := VS_n
       have VL := VL_n
       have VH := VH_n
       have VD := VD_n
       have VU := VU_n
       clear BB_n hS_n ht_n hna_n h1_n hnd_n h2_n VS_n VL_n VH_n VD_n VU_n
       refine hK.out _ _ ?_ (fun hH8 => ?_)
       ·exact ⟨VS.1,VS.2.1,VS.2.2.1,VL.1,VL.2.1,VH.1,VH.2.1⟩
       clear hK K hH7
       (try simp only [Act.put,xL4,xL5,xL6])
       refine wpAnyH_done (by kernel_rfl) ?_ _
       clear hH8
       go_wp2_with fail
       go_meet
       exact ⟨R76,R80,p1,a1,n1,c1,b1,m1,d1,p2,a2,n2,c2,b2,m2,d2,rfl,rfl,VD,VU,h1,h2,BB⟩
      exact AllReadyH.nil
     refine xC (h := fun K hK => ?_) (hs := ?_)
     ·
      go_simp
      have hZ83 : W6.heap.size ≤ w42.heap.size := BB.size
      have hN83VS : R2 ≠ w42.heap.size := Nat.ne_of_lt VS.lt
      have hN83VL : R3 ≠ w42.heap.size := Nat.ne_of_lt VL.lt
      have hN83VH : R3 + 1 ≠ w42.heap.size := Nat.ne_of_lt VH.lt
      have hN83VD : R76 ≠ w42.heap.size := Nat.ne_of_lt VD.lt
      obtain ⟨W83,hW83,hS83,hL83,VU⟩ := V3.lay w42 27 (.bool false) (.slice none 0 0) (.slice none 0 0)
      replace hS := hS.below hL83
      replace ht := ht.below hL83
      replace hna := hna.below hL83
      replace h1 := h1.below hL83
      replace VS := VS.below hL83
      replace VL := VL.below hL83
      replace VH := VH.below hL83
      replace VD := VD.below hL83
      replace BB := BB.trans (hL83.mono BB.size)
      clear hL83
      rw [← hW83]
      generalize w42.heap.size = R83 at *
      clear hW83 hS83
      refine hK.out _ _ ?_ (fun hH4 => ?_)
      ·exact ⟨VS.1,VS.2.1,VS.2.2.1,VL.1,VL.2.1,VH.1,VH.2.1⟩
      clear hK K hH3
      (try simp only [Act.put,xL4,xL5,xL6])
      refine xR [5] (h := ?_)
      refine xN (h := fun K hK => ?_)
      go_simp
      refine (number_at (D : Int) (E : Int) _ (by omega) (by omega) (by omega) (by omega) ht).mono ?_
      rintro e w46 ⟨nd,rfl,hnd,b46⟩
      rw [hqd] at hnd
      go_wp2_with fail
      replace hS := hS.below b46
      replace ht := ht.below b46
      replace hna := hna.below b46
      replace h1 := h1.below b46
      replace VS := VS.below b46
      replace VL := VL.below b46
      replace VH := VH.below b46
      replace VD := VD.below b46
      replace VU := VU.below b46
      replace BB := BB.trans (b46.mono BB.size)
      clear b46
      refine hK.out _ _ ?_ (fun hH5 => ?_)
      ·exact ⟨VS.1,VS.2.1,VS.2.2.1,VL.1,VL.2.1,VH.1,VH.2.1⟩
      clear hK K hH4
      (try simp only [Act.put,xL4,xL5,xL6])
      refine xR [7] (h := ?_)
      refine xN (h := fun K hK => ?_)
      go_simp
      refine (qsub_at _ _ qd S (L + (L + 1) + 1) _ (hnd.at _ (by omega)) hS (by omega) (by omega) ht).mono ?_
      rintro e w47 ⟨v2,rfl,h2,b47⟩
      obtain ⟨p2,a2,n2,c2,b2,m2,d2,rfl⟩ := h2.open
      go_wp2_with fail
      replace hS := hS.below b47
      replace ht := ht.below b47
      replace hna := hna.below b47
      replace h1 := h1.below b47
      replace hnd := hnd.below b47
      replace VS := VS.below b47
      replace VL := VL.below b47
      replace VH := VH.below b47
      replace VD := VD.below b47
      replace VU := VU.below b47
      replace BB := BB.trans (b47.mono BB.size)
      clear b47
      refine hK.out _ _ ?_ (fun hH6 => ?_)
      ·exact ⟨VS.1,VS.2.1,VS.2.2.1,VL.1,VL.2.1,VH.1,VH.2.1⟩
      clear hK K hH5
      (try simp only [Act.put,xL4,xL5,xL6])
      refine xR [10] (h := ?_)
      refine xN (h := fun K hK => ?_)
      have hKp := VD.keepJ (.bool p1) (.slice a1 n1 c1) (.slice b1 m1 d1)
      have VS_n := VS.other3 (R := R76) (by omega) (.bool p1) (.slice a1 n1 c1) (.slice b1 m1 d1)
      have VL_n := VL.other3 (R := R76) (by omega) (.bool p1) (.slice a1 n1 c1) (.slice b1 m1 d1)
      have VH_n := VH.other3 (R := R76) (by omega) (.bool p1) (.slice a1 n1 c1) (.slice b1 m1 d1)
      have VU_n := VU.other3 (R := R76) (by omega) (.bool p1) (.slice a1 n1 c1) (.slice b1 m1 d1)
      have VD_n := VD.same (.bool p1) (.slice a1 n1 c1) (.slice b1 m1 d1)
      have hS_n := hS.keep hKp
      have ht_n := ht.keep hKp
      have hna_n := hna.keep hKp
      have h1_n := h1.keep hKp
      have hnd_n := hnd.keep hKp
      have h2_n := h2.keep hKp
      have BB_n := below_store3 (R := R76) BB (by omega) (.bool p1) (.slice a1 n1 c1) (.slice b1 m1 d1)
      clear hKp
      obtain ⟨VD_0,VD_1,VD_2,VD_3,VD_4,VD_5⟩ := id VD
      go_simp
      clear VD_0 VD_1 VD_2 VD_3 VD_4 VD_5
      clear BB hS ht hna h1 hnd h2 VS VL VH VD VU
      generalize ((w47.setCell ⟨R76,0,none⟩ (.bool p1)).setCell ⟨R76,1,none⟩ (.slice a1 n1 c1)).setCell ⟨R76,2,none⟩ (.slice b1 m1 d1) = W84 at *
      have BB := BB_n
      have hS := hS_n
      have ht := ht_n
      have hna := hna_n
      have h1 := h1_n
      have hnd := hnd_n
      have h2 := h2_n
      have VS := VS_n
      have VL := VL_n
      have VH := VH_n
      have VD := VD_n
      have VU := VU_n
      clear BB_n hS_n ht_n hna_n h1_n hnd_n h2_n VS_n VL_n VH_n VD_n VU_n
      refine hK.out _ _ ?_ (fun hH7 => ?_)
      ·exact ⟨VS.1,VS.2.1,VS.2.2.1,VL.1,VL.2.1,VH.1,VH.2.1⟩
      clear hK K hH6
      (try simp only [Act.put,xL4,xL5,xL6])
      refine xR [11] (h := ?_)
      refine xN (h := fun K hK => ?_)
      have hKp := VU.keepJ (.bool p2) (.slice a2 n2 c2) (.slice b2 m2 d2)
      have VS_n := VS.other3 (R := R83) (by omega) (.bool p2) (.slice a2 n2 c2) (.slice b2 m2 d2)
      have VL_n := VL.other3 (R := R83) (by omega) (.bool p2) (.slice a2 n2 c2) (.slice b2 m2 d2)
      have VH_n := VH.other3 (R := R83) (by omega) (.bool p2) (.slice a2 n2 c2) (.slice b2 m2 d2)
      have VD_n := VD.other3 (R := R83) (by omega) (.bool p2) (.slice a2 n2 c2) (.slice b2 m2 d2)
      have VU_n := VU.same (.bool p2) (.slice a2 n2 c2) (.slice b2 m2 d2)
      have hS_n := hS.keep hKp
      have ht_n := ht.keep hKp
      have hna_n := hna.keep hKp
      have h1_n := h1.keep hKp
      have hnd_n := hnd.keep hKp
      have h2_n := h2.keep hKp
      have BB_n := below_store3 (R := R83) BB (by omega) (.bool p2) (.slice a2 n2 c2) (.slice b2 m2 d2)
      clear hKp
      obtain ⟨VU_0,VU_1,VU_2,VU_3,VU_4,VU_5⟩ := id VU
      go_simp
      clear VU_0 VU_1 VU_2 VU_3 VU_4 VU_5
      clear BB hS ht hna h1 hnd h2 VS VL VH VD VU
      generalize ((W84.setCell ⟨R83,0,none⟩ (.bool p2)).setCell ⟨R83,1,none⟩ (.slice a2 n2 c2)).setCell ⟨R83,2,none⟩ (.slice b2 m2 d2) = W85 at *
      have BB := BB_n
      have hS := hS_n
      have ht := ht_n
      have hna := hna_n
      have h1 := h1_n
      have hnd := hnd_n
      have h2 := h2_n
      have VS := VS_n
      have VL := VL_n
      have VH := VH_n
      have VD := VD_n
      have VU := VU_n
      clear BB_n hS_n ht_n hna_n h1_n hnd_n h2_n VS_n VL_n VH_n VD_n VU_n
      refine hK.out _ _ ?_ (fun hH8 => ?_)
      ·exact ⟨VS.1,VS.2.1,VS.2.2.1,VL.1,VL.2.1,VH.1,VH.2.1⟩
      clear hK K hH7
      (try simp only [Act.put,xL4,xL5,xL6])
      refine wpAnyH_done (by kernel_rfl) ?_ _
      clear hH8
      go_wp2_with fail
      go_meet
      exact ⟨R76,R83,p1,a1,n1,c1,b1,m1,d1,p2,a2,n2,c2,b2,m2,d2,rfl,rfl,VD,VU,h1,h2,BB⟩
     exact AllReadyH.nil
    refine xC (h := fun K hK => ?_) (hs := ?_)
    ·
     go_simp
     have hZ86 : W6.heap.size ≤ w41.heap.size := BB.size
     have hN86VS : R2 ≠ w41.heap.size := Nat.ne_of_lt VS.lt
     have hN86VL : R3 ≠ w41.heap.size := Nat.ne_of_lt VL.lt
     have hN86VH : R3 + 1 ≠ w41.heap.size := Nat.ne_of_lt VH.lt
     have hN86VD : R76 ≠ w41.heap.size := Nat.ne_of_lt VD.lt
     obtain ⟨W86,hW86,hS86,hL86,VU⟩ := V3.lay w41 27 (.bool false) (.slice none 0 0) (.slice none 0 0)
     replace hS := hS.below hL86
     replace ht := ht.below hL86
     replace hna := hna.below hL86
     replace VS := VS.below hL86
     replace VL := VL.below hL86
     replace VH := VH.below hL86
     replace VD := VD.below hL86
     replace BB := BB.trans (hL86.mono BB.size)
     clear hL86
     rw [← hW86]
     generalize w41.heap.size = R86 at *
     clear hW86 hS86
     refine hK.out _ _ ?_ (fun hH3 => ?_)
     ·exact ⟨VS.1,VS.2.1,VS.2.2.1,VL.1,VL.2.1,VH.1,VH.2.1⟩
     clear hK K hH2
     (try simp only [Act.put,xL4,xL5,xL6])
     refine xR [3] (h := ?_)
     refine xN (h := fun K hK => ?_)
     go_simp
     refine (qsub_at _ _ S qa (L + (L + 1) + 1) _ hS (hna.at _ (by omega)) (by omega) (by omega) ht).mono ?_
     rintro e w48 ⟨v1,rfl,h1,b48⟩
     obtain ⟨p1,a1,n1,c1,b1,m1,d1,rfl⟩ := h1.open
     go_wp2_with fail
     replace hS := hS.below b48
     replace ht := ht.below b48
     replace hna := hna.below b48
     replace VS := VS.below b48
     replace VL := VL.below b48
     replace VH := VH.below b48
     replace VD := VD.below b48
     replace VU := VU.below b48
     replace BB := BB.trans (b48.mono BB.size)
     clear b48
     refine hK.out _ _ ?_ (fun hH4 => ?_)
     ·exact ⟨VS.1,VS.2.1,VS.2.2.1,VL.1,VL.2.1,VH.1,VH.2.1⟩
     clear hK K hH3
     (try simp only [Act.put,xL4,xL5,xL6])
     refine xR [5] (h := ?_)
     refine xN (h := fun K hK => ?_)
     go_simp
     refine (number_at (D : Int) (E : Int) _ (by omega) (by omega) (by omega) (by omega) ht).mono ?_
     rintro e w49 ⟨nd,rfl,hnd,b49⟩
     rw [hqd] at hnd
     go_wp2_with fail
     replace hS := hS.below b49
     replace ht := ht.below b49
     replace hna := hna.below b49
     replace h1 := h1.below b49
     replace VS := VS.below b49
     replace VL := VL.below b49
     replace VH := VH.below b49
     replace VD := VD.below b49
     replace VU := VU.below b49
     replace BB := BB.trans (b49.mono BB.size)
     clear b49
     refine hK.out _ _ ?_ (fun hH5 => ?_)
     ·exact ⟨VS.1,VS.2.1,VS.2.2.1,VL.1,VL.2.1,VH.1,VH.2.1⟩
     clear hK K hH4
     (try simp only [Act.put,xL4,xL5,xL6])
     refine xR [7] (h := ?_)
     refine xN (h := fun K hK => ?_)
     go_simp
     refine (qsub_at _ _ qd S (L + (L + 1) + 1) _ (hnd.at _ (by omega)) hS (by omega) (by omega) ht).mono ?_
     rintro e w50 ⟨v2,rfl,h2,b50⟩
     obtain ⟨p2,a2,n2,c2,b2,m2,d2,rfl⟩ := h2.open
     go_wp2_with fail
     replace hS := hS.below b50
     replace ht := ht.below b50
     replace hna := hna.below b50
     replace h1 := h1.below b50
     replace hnd := hnd.below b50
     replace VS := VS.below b50
     replace VL := VL.below b50
     replace VH := VH.below b50
     replace VD := VD.below b50
     replace VU := VU.below b50
     replace BB := BB.trans (b50.mono BB.size)
     clear b50
     refine hK.out _ _ ?_ (fun hH6 => ?_)
     ·exact ⟨VS.1,VS.2.1,VS.2.2.1,VL.1,VL.2.1,VH.1,VH.2.1⟩
     clear hK K hH5
     (try simp only [Act.put,xL4,xL5,xL6])
     refine xR [10] (h := ?_)
     refine xN (h := fun K hK => ?_)
     have hKp := VD.keepJ (.bool p1) (.slice a1 n1 c1) (.slice b1 m1 d1)
     have VS_n := VS.other3 (R := R76) (by omega) (.bool p1) (.slice a1 n1 c1) (.slice b1 m1 d1)
     have VL_n := VL.other3 (R := R76) (by omega) (.bool p1) (.slice a1 n1 c1) (.slice b1 m1 d1)
     have VH_n := VH.other3 (R := R76) (by omega) (.bool p1) (.slice a1 n1 c1) (.slice b1 m1 d1)
     have VU_n := VU.other3 (R := R76) (by omega) (.bool p1) (.slice a1 n1 c1) (.slice b1 m1 d1)
     have VD_n := VD.same (.bool p1) (.slice a1 n1 c1) (.slice b1 m1 d1)
     have hS_n := hS.keep hKp
     have ht_n := ht.keep hKp
     have hna_n := hna.keep hKp
     have h1_n := h1.keep hKp
     have hnd_n := hnd.keep hKp
     have h2_n := h2.keep hKp
     have BB_n := below_store3 (R := R76) BB (by omega) (.bool p1) (.slice a1 n1 c1) (.slice b1 m1 d1)
     clear hKp
     obtain ⟨VD_0,VD_1,VD_2,VD_3,VD_4,VD_5⟩ := id VD
     go_simp
     clear VD_0 VD_1 VD_2 VD_3 VD_4 VD_5
     clear BB hS ht hna h1 hnd h2 VS VL VH VD VU
     generalize ((w50.setCell ⟨R76,0,none⟩ (.bool p1)).setCell ⟨R76,1,none⟩ (.slice a1 n1 c1)).setCell ⟨R76,2,none⟩ (.slice b1 m1 d1) = W87 at *
     have BB := BB_n
     have hS := hS_n
     have ht := ht_n
     have hna := hna_n
     have h1 := h1_n
     have hnd := hnd_n
     have h2 := h2_n
     have VS := VS_n
     have VL := VL_n
     have VH := VH_n
     have VD := VD_n
     have VU := VU_n
     clear BB_n hS_n ht_n hna_n h1_n hnd_n h2_n VS_n VL_n VH_n VD_n VU_n
     refine hK.out _ _ ?_ (fun hH7 => ?_)
     ·exact ⟨VS.1,VS.2.1,VS.2.2.1,VL.1,VL.2.1,VH.1,VH.2.1⟩
     clear hK K hH6
     (try simp only [Act.put,xL4,xL5,xL6])
     refine xR [11] (h := ?_)
     refine xN (h := fun K hK => ?_)
     have hKp := VU.keepJ (.bool p2) (.slice a2 n2 c2) (.slice b2 m2 d2)
     have VS_n := VS.other3 (R := R86) (by omega) (.bool p2) (.slice a2 n2 c2) (.slice b2 m2 d2)
     have VL_n := VL.other3 (R := R86) (by omega) (.bool p2) (.slice a2 n2 c2) (.slice b2 m2 d2)
     have VH_n := VH.other3 (R := R86) (by omega) (.bool p2) (.slice a2 n2 c2) (.slice b2 m2 d2)
     have VD_n := VD.other3 (R := R86) (by omega) (.bool p2) (.slice a2 n2 c2) (.slice b2 m2 d2)
     have VU_n := VU.same (.bool p2) (.slice a2 n2 c2) (.slice b2 m2 d2)
     have hS_n := hS.keep hKp
     have ht_n := ht.keep hKp
     have hna_n := hna.keep hKp
     have h1_n := h1.keep hKp
     have hnd_n := hnd.keep hKp
     have h2_n := h2.keep hKp
     have BB_n := below_store3 (R := R86) BB (by omega) (.bool p2) (.slice a2 n2 c2) (.slice b2 m2 d2)
     clear hKp
     obtain ⟨VU_0,VU_1,VU_2,VU_3,VU_4,VU_5⟩ := id VU
     go_simp
     clear VU_0 VU_1 VU_2 VU_3 VU_4 VU_5
     clear BB hS ht hna h1 hnd h2 VS VL VH VD VU
     generalize ((W87.setCell ⟨R86,0,none⟩ (.bool p2)).setCell ⟨R86,1,none⟩ (.slice a2 n2 c2)).setCell ⟨R86,2,none⟩ (.slice b2 m2 d2) = W88 at *
     have BB := BB_n
     have hS := hS_n
     have ht := ht_n
     have hna := hna_n
     have h1 := h1_n
     have hnd := hnd_n
     have h2 := h2_n
     have VS := VS_n
     have VL := VL_n
     have VH := VH_n
     have VD := VD_n
     have VU := VU_n
     clear BB_n hS_n ht_n hna_n h1_n hnd_n h2_n VS_n VL_n VH_n VD_n VU_n
     refine hK.out _ _ ?_ (fun hH8 => ?_)
     ·exact ⟨VS.1,VS.2.1,VS.2.2.1,VL.1,VL.2.1,VH.1,VH.2.1⟩
     clear hK K hH7
     (try simp only [Act.put,xL4,xL5,xL6])
     refine wpAnyH_done (by kernel_rfl) ?_ _
     clear hH8
     go_wp2_with fail
     go_meet
     exact ⟨R76,R86,p1,a1,n1,c1,b1,m1,d1,p2,a2,n2,c2,b2,m2,d2,rfl,rfl,VD,VU,h1,h2,BB⟩
    exact AllReadyH.nil
   refine xC (h := fun K hK => ?_) (hs := ?_)
   ·
    go_simp
    have hZ89 : W6.heap.size ≤ W76.heap.size := BB.size
    have hN89VS : R2 ≠ W76.heap.size := Nat.ne_of_lt VS.lt
    have hN89VL : R3 ≠ W76.heap.size := Nat.ne_of_lt VL.lt
    have hN89VH : R3 + 1 ≠ W76.heap.size := Nat.ne_of_lt VH.lt
    have hN89VD : R76 ≠ W76.heap.size := Nat.ne_of_lt VD.lt
    obtain ⟨W89,hW89,hS89,hL89,VU⟩ := V3.lay W76 27 (.bool false) (.slice none 0 0) (.slice none 0 0)
    replace hS := hS.below hL89
    replace ht := ht.below hL89
    replace VS := VS.below hL89
    replace VL := VL.below hL89
    replace VH := VH.below hL89
    replace VD := VD.below hL89
    replace BB := BB.trans (hL89.mono BB.size)
    clear hL89
    rw [← hW89]
    generalize W76.heap.size = R89 at *
    clear hW89 hS89
    refine hK.out _ _ ?_ (fun hH2 => ?_)
    ·exact ⟨VS.1,VS.2.1,VS.2.2.1,VL.1,VL.2.1,VH.1,VH.2.1⟩
    clear hK K hH1
    (try simp only [Act.put,xL4,xL5,xL6])
    refine xR [2] (h := ?_)
    refine xN (h := fun K hK => ?_)
    go_simp
    refine (number_at (A : Int) (C : Int) _ (by omega) (by omega) (by omega) (by omega) ht).mono ?_
    rintro e w51 ⟨na,rfl,hna,b51⟩
    rw [hqa] at hna
    go_wp2_with fail
    replace hS := hS.below b51
    replace ht := ht.below b51
    replace VS := VS.below b51
    replace VL := VL.below b51
    replace VH := VH.below b51
    replace VD := VD.below b51
    replace VU := VU.below b51
    replace BB := BB.trans (b51.mono BB.size)
    clear b51
    refine hK.out _ _ ?_ (fun hH3 => ?_)
    ·exact ⟨VS.1,VS.2.1,VS.2.2.1,VL.1,VL.2.1,VH.1,VH.2.1⟩
    clear hK K hH2
    (try simp only [Act.put,xL4,xL5,xL6])
    refine xR [3] (h := ?_)
    refine xN (h := fun K hK => ?_)
    go_simp
    refine (qsub_at _ _ S qa (L + (L + 1) + 1) _ hS (hna.at _ (by omega)) (by omega) (by omega) ht).mono ?_
    rintro e w52 ⟨v1,rfl,h1,b52⟩
    obtain ⟨p1,a1,n1,c1,b1,m1,d1,rfl⟩ := h1.open
    go_wp2_with fail
    replace hS := hS.below b52
    replace ht := ht.below b52
    replace hna := hna.below b52
    replace VS := VS.below b52
    replace VL := VL.below b52
    replace VH := VH.below b52
    replace VD := VD.below b52
    replace VU := VU.below b52
    replace BB := BB.trans (b52.mono BB.size)
    clear b52
    refine hK.out _ _ ?_ (fun hH4 => ?_)
    ·exact ⟨VS.1,VS.2.1,VS.2.2.1,VL.1,VL.2.1,VH.1,VH.2.1⟩
    clear hK K hH3
    (try simp only [Act.put,xL4,xL5,xL6])
    refine xR [5] (h := ?_)
    refine xN (h := fun K hK => ?_)
    go_simp
    refine (number_at (D : Int) (E : Int) _ (by omega) (by omega) (by omega) (by omega) ht).mono ?_
    rintro e w53 ⟨nd,rfl,hnd,b53⟩
    rw [hqd] at hnd
    go_wp2_with fail
    replace hS := hS.below b53
    replace ht := ht.below b53
    replace hna := hna.below b53
    replace h1 := h1.below b53
    replace VS := VS.below b53
    replace VL := VL.below b53
    replace VH := VH.below b53
    replace VD := VD.below b53
    replace VU := VU.below b53
    replace BB := BB.trans (b53.mono BB.size)
    clear b53
    refine hK.out _ _ ?_ (fun hH5 => ?_)
    ·exact ⟨VS.1,VS.2.1,VS.2.2.1,VL.1,VL.2.1,VH.1,VH.2.1⟩
    clear hK K hH4
    (try simp only [Act.put,xL4,xL5,xL6])
    refine xR [7] (h := ?_)
    refine xN (h := fun K hK => ?_)
    go_simp
    refine (qsub_at _ _ qd S (L + (L + 1) + 1) _ (hnd.at _ (by omega)) hS (by omega) (by omega) ht).mono ?_
    rintro e w54 ⟨v2,rfl,h2,b54⟩
    obtain ⟨p2,a2,n2,c2,b2,m2,d2,rfl⟩ := h2.open
    go_wp2_with fail
    replace hS := hS.below b54
    replace ht := ht.below b54
    replace hna := hna.below b54
    replace h1 := h1.below b54
    replace hnd := hnd.below b54
    replace VS := VS.below b54
    replace VL := VL.below b54
    replace VH := VH.below b54
    replace VD := VD.below b54
    replace VU := VU.below b54
    replace BB := BB.trans (b54.mono BB.size)
    clear b54
    refine hK.out _ _ ?_ (fun hH6 => ?_)
    ·exact ⟨VS.1,VS.2.1,VS.2.2.1,VL.1,VL.2.1,VH.1,VH.2.1⟩
    clear hK K hH5
    (try simp only [Act.put,xL4,xL5,xL6])
    refine xR [10] (h := ?_)
    refine xN (h := fun K hK => ?_)
    have hKp := VD.keepJ (.bool p1) (.slice a1 n1 c1) (.slice b1 m1 d1)
    have VS_n := VS.other3 (R := R76) (by omega) (.bool p1) (.slice a1 n1 c1) (.slice b1 m1 d1)
    have VL_n := VL.other3 (R := R76) (by omega) (.bool p1) (.slice a1 n1 c1) (.slice b1 m1 d1)
    have VH_n := VH.other3 (R := R76) (by omega) (.bool p1) (.slice a1 n1 c1) (.slice b1 m1 d1)
    have VU_n := VU.other3 (R := R76) (by omega) (.bool p1) (.slice a1 n1 c1) (.slice b1 m1 d1)
    have VD_n := VD.same (.bool p1) (.slice a1 n1 c1) (.slice b1 m1 d1)
    have hS_n := hS.keep hKp
    have ht_n := ht.keep hKp
    have hna_n := hna.keep hKp
    have h1_n := h1.keep hKp
    have hnd_n := hnd.keep hKp
    have h2_n := h2.keep hKp
    have BB_n := below_store3 (R := R76) BB (by omega) (.bool p1) (.slice a1 n1 c1) (.slice b1 m1 d1)
    clear hKp
    obtain ⟨VD_0,VD_1,VD_2,VD_3,VD_4,VD_5⟩ := id VD
    go_simp
    clear VD_0 VD_1 VD_2 VD_3 VD_4 VD_5
    clear BB hS ht hna h1 hnd h2 VS VL VH VD VU
    generalize ((w54.setCell ⟨R76,0,none⟩ (.bool p1)).setCell ⟨R76,1,none⟩ (.slice a1 n1 c1)).setCell ⟨R76,2,none⟩ (.slice b1 m1 d1) = W90 at *
    have BB := BB_n
    have hS := hS_n
    have ht := ht_n
    have hna := hna_n
    have h1 := h1_n
    have hnd := hnd_n
    have h2 := h2_n
    have VS := VS_n
    have VL := VL_n
    have VH := VH_n
    have VD := VD_n
    have VU := VU_n
    clear BB_n hS_n ht_n hna_n h1_n hnd_n h2_n VS_n VL_n VH_n VD_n VU_n
    refine hK.out _ _ ?_ (fun hH7 => ?_)
    ·exact ⟨VS.1,VS.2.1,VS.2.2.1,VL.1,VL.2.1,VH.1,VH.2.1⟩
    clear hK K hH6
    (try simp only [Act.put,xL4,xL5,xL6])
    refine xR [11] (h := ?_)
    refine xN (h := fun K hK => ?_)
    have hKp := VU.keepJ (.bool p2) (.slice a2 n2 c2) (.slice b2 m2 d2)
    have VS_n := VS.other3 (R := R89) (by omega) (.bool p2) (.slice a2 n2 c2) (.slice b2 m2 d2)
    have VL_n := VL.other3 (R := R89) (by omega) (.bool p2) (.slice a2 n2 c2) (.slice b2 m2 d2)
    have VH_n := VH.other3 (R := R89) (by omega) (.bool p2) (.slice a2 n2 c2) (.slice b2 m2 d2)
    have VD_n := VD.other3 (R := R89) (by omega) (.bool p2) (.slice a2 n2 c2) (.slice b2 m2 d2)
    have VU_n := VU.same (.bool p2) (.slice a2 n2 c2) (.slice b2 m2 d2)
    have hS_n := hS.keep hKp
    have ht_n := ht.keep hKp
    have hna_n := hna.keep hKp
    have h1_n := h1.keep hKp
    have hnd_n := hnd.keep hKp
    have h2_n := h2.keep hKp
    have BB_n := below_store3 (R := R89) BB (by omega) (.bool p2) (.slice a2 n2 c2) (.slice b2 m2 d2)
    clear hKp
    obtain ⟨VU_0,VU_1,VU_2,VU_3,VU_4,VU_5⟩ := id VU
    go_simp
    clear VU_0 VU_1 VU_2 VU_3 VU_4 VU_5
    clear BB hS ht hna h1 hnd h2 VS VL VH VD VU
    generalize ((W90.setCell ⟨R89,0,none⟩ (.bool p2)).setCell ⟨R89,1,none⟩ (.slice a2 n2 c2)).setCell ⟨R89,2,none⟩ (.slice b2 m2 d2) = W91 at *
    have BB := BB_n
    have hS := hS_n
    have ht := ht_n
    have hna := hna_n
    have h1 := h1_n
    have hnd := hnd_n
    have h2 := h2_n
    have VS := VS_n
    have VL := VL_n
    have VH := VH_n
    have VD := VD_n
    have VU := VU_n
    clear BB_n hS_n ht_n hna_n h1_n hnd_n h2_n VS_n VL_n VH_n VD_n VU_n
    refine hK.out _ _ ?_ (fun hH8 => ?_)
    ·exact ⟨VS.1,VS.2.1,VS.2.2.1,VL.1,VL.2.1,VH.1,VH.2.1⟩
    clear hK K hH7
    (try simp only [Act.put,xL4,xL5,xL6])
    refine wpAnyH_done (by kernel_rfl) ?_ _
    clear hH8
    go_wp2_with fail
    go_meet
    exact ⟨R76,R89,p1,a1,n1,c1,b1,m1,d1,p2,a2,n2,c2,b2,m2,d2,rfl,rfl,VD,VU,h1,h2,BB⟩
   exact AllReadyH.nil
  refine xC (h := fun K hK => ?_) (hs := ?_)
  ·
   go_simp
   have hZ92 : W6.heap.size ≤ W7.heap.size := BB.size
   have hN92VS : R2 ≠ W7.heap.size := Nat.ne_of_lt VS.lt
   have hN92VL : R3 ≠ W7.heap.size := Nat.ne_of_lt VL.lt
   have hN92VH : R3 + 1 ≠ W7.heap.size := Nat.ne_of_lt VH.lt
   obtain ⟨W92,hW92,hS92,hL92,VU⟩ := V3.lay W7 27 (.bool false) (.slice none 0 0) (.slice none 0 0)
   replace hS := hS.below hL92
   replace ht := ht.below hL92
   replace VS := VS.below hL92
   replace VL := VL.below hL92
   replace VH := VH.below hL92
   replace BB := BB.trans (hL92.mono BB.size)
   clear hL92
   rw [← hW92]
   generalize W7.heap.size = R92 at *
   clear hW92 hS92
   refine hK.out _ _ ?_ (fun hH1 => ?_)
   ·exact ⟨VS.1,VS.2.1,VS.2.2.1,VL.1,VL.2.1,VH.1,VH.2.1⟩
   clear hK K hHeld
   (try simp only [Act.put,xL4,xL5,xL6])
   refine xR [2,8] (h := ?_)
   refine xC (h := fun K hK => ?_) (hs := ?_)
   ·
    go_simp
    refine (number_at (A : Int) (C : Int) _ (by omega) (by omega) (by omega) (by omega) ht).mono ?_
    rintro e w55 ⟨na,rfl,hna,b55⟩
    rw [hqa] at hna
    go_wp2_with fail
    replace hS := hS.below b55
    replace ht := ht.below b55
    replace VS := VS.below b55
    replace VL := VL.below b55
    replace VH := VH.below b55
    replace VU := VU.below b55
    replace BB := BB.trans (b55.mono BB.size)
    clear b55
    refine hK.out _ _ ?_ (fun hH2 => ?_)
    ·exact ⟨VS.1,VS.2.1,VS.2.2.1,VL.1,VL.2.1,VH.1,VH.2.1⟩
    clear hK K hH1
    (try simp only [Act.put,xL4,xL5,xL6])
    refine xR [3,8] (h := ?_)
    refine xC (h := fun K hK => ?_) (hs := ?_)
    ·
     go_simp
     refine (qsub_at _ _ S qa (L + (L + 1) + 1) _ hS (hna.at _ (by omega)) (by omega) (by omega) ht).mono ?_
     rintro e w56 ⟨v1,rfl,h1,b56⟩
     obtain ⟨p1,a1,n1,c1,b1,m1,d1,rfl⟩ := h1.open
     go_wp2_with fail
     replace hS := hS.below b56
     replace ht := ht.below b56
     replace hna := hna.below b56
     replace VS := VS.below b56
     replace VL := VL.below b56
     replace VH := VH.below b56
     replace VU := VU.below b56
     replace BB := BB.trans (b56.mono BB.size)
     clear b56
     refine hK.out _ _ ?_ (fun hH3 => ?_)
     ·exact ⟨VS.1,VS.2.1,VS.2.2.1,VL.1,VL.2.1,VH.1,VH.2.1⟩
     clear hK K hH2
     (try simp only [Act.put,xL4,xL5,xL6])
     refine xR [5,8] (h := ?_)
     refine xC (h := fun K hK => ?_) (hs := ?_)
     ·
      go_simp
      refine (number_at (D : Int) (E : Int) _ (by omega) (by omega) (by omega) (by omega) ht).mono ?_
      rintro e w57 ⟨nd,rfl,hnd,b57⟩
      rw [hqd] at hnd
      go_wp2_with fail
      replace hS := hS.below b57
      replace ht := ht.below b57
      replace hna := hna.below b57
      replace h1 := h1.below b57
      replace VS := VS.below b57
      replace VL := VL.below b57
      replace VH := VH.below b57
      replace VU := VU.below b57
      replace BB := BB.trans (b57.mono BB.size)
      clear b57
      refine hK.out _ _ ?_ (fun hH4 => ?_)
      ·exact ⟨VS.1,VS.2.1,VS.2.2.1,VL.1,VL.2.1,VH.1,VH.2.1⟩
      clear hK K hH3
      (try simp only [Act.put,xL4,xL5,xL6])
      refine xR [7,8] (h := ?_)
      refine xC (h := fun K hK => ?_) (hs := ?_)
      ·
       go_simp
       refine (qsub_at _ _ qd S (L + (L + 1) + 1) _ (hnd.at _ (by omega)) hS (by omega) (by omega) ht).mono ?_
       rintro e w58 ⟨v2,rfl,h2,b58⟩
       obtain ⟨p2,a2,n2,c2,b2,m2,d2,rfl⟩ := h2.open
       go_wp2_with fail
       replace hS := hS.below b58
       replace ht := ht.below b58
       replace hna := hna.below b58
       replace h1 := h1.below b58
       replace hnd := hnd.below b58
       replace VS := VS.below b58
       replace VL := VL.below b58
       replace VH := VH.below b58
       replace VU := VU.below b58
       replace BB := BB.trans (b58.mono BB.size)
       clear b58
       refine hK.out _ _ ?_ (fun hH5 => ?_)
       ·exact ⟨VS.1,VS.2.1,VS.2.2.1,VL.1,VL.2.1,VH.1,VH.2.1⟩
       clear hK K hH4
       (try simp only [Act.put,xL4,xL5,xL6])
       refine xR [8] (h := ?_)
       refine xN (h := fun K hK => ?_)
       go_simp
       have hZ93 : W6.heap.size ≤ w58.heap.size := BB.size
       have hN93VS : R2 ≠ w58.heap.size := Nat.ne_of_lt VS.lt
       have hN93VL : R3 ≠ w58.heap.size := Nat.ne_of_lt VL.lt
       have hN93VH : R3 + 1 ≠ w58.heap.size := Nat.ne_of_lt VH.lt
       have hN93VU : R92 ≠ w58.heap.size := Nat.ne_of_lt VU.lt
       obtain ⟨W93,hW93,hS93,hL93,VD⟩ := V3.lay w58 27 (.bool false) (.slice none 0 0) (.slice none 0 0)
       replace hS := hS.below hL93
       replace ht := ht.below hL93
       replace hna := hna.below hL93
       replace h1 := h1.below hL93
       replace hnd := hnd.below hL93
       replace h2 := h2.below hL93
       replace VS := VS.below hL93
       replace VL := VL.below hL93
       replace VH := VH.below hL93
       replace VU := VU.below hL93
       replace BB := BB.trans (hL93.mono BB.size)
       clear hL93
       rw [← hW93]
       generalize w58.heap.size = R93 at *
       clear hW93 hS93
       refine hK.out _ _ ?_ (fun hH6 => ?_)
       ·exact ⟨VS.1,VS.2.1,VS.2.2.1,VL.1,VL.2.1,VH.1,VH.2.1⟩
       clear hK K hH5
       (try simp only [Act.put,xL4,xL5,xL6])
       refine xR [10] (h := ?_)
       refine xN (h := fun K hK => ?_)
       have hKp := VD.keepJ (.bool p1) (.slice a1 n1 c1) (.slice b1 m1 d1)
       have VS_n := VS.other3 (R := R93) (by omega) (.bool p1) (.slice a1 n1 c1) (.slice b1 m1 d1)
       have VL_n := VL.other3 (R := R93) (by omega) (.bool p1) (.slice a1 n1 c1) (.slice b1 m1 d1)
       have VH_n := VH.other3 (R := R93) (by omega) (.bool p1) (.slice a1 n1 c1) (.slice b1 m1 d1)
       have VU_n := VU.other3 (R := R93) (by omega) (.bool p1) (.slice a1 n1 c1) (.slice b1 m1 d1)
       have VD_n := VD.same (.bool p1) (.slice a1 n1 c1) (.slice b1 m1 d1)
       have hS_n := hS.keep hKp
       have ht_n := ht.keep hKp
       have hna_n := hna.keep hKp
       have h1_n := h1.keep hKp
       have hnd_n := hnd.keep hKp
       have h2_n := h2.keep hKp
       have BB_n := below_store3 (R := R93) BB (by omega) (.bool p1) (.slice a1 n1 c1) (.slice b1 m1 d1)
       clear hKp
       obtain ⟨VD_0,VD_1,VD_2,VD_3,VD_4,VD_5⟩ := id VD
       go_simp
       clear VD_0 VD_1 VD_2 VD_3 VD_4 VD_5
       clear BB hS ht hna h1 hnd h2 VS VL VH VU VD
       generalize ((W93.setCell ⟨R93,0,none⟩ (.bool p1)).setCell ⟨R93,1,none⟩ (.slice a1 n1 c1)).setCell ⟨R93,2,none⟩ (.slice b1 m1 d1) = W94 at *
       have BB := BB_n
       have hS := hS_n
       have ht := ht_n
       have hna := hna_n
       have h1 := h1_n
       have hnd := hnd_n
       have h2 := h2_n
       have VS := VS_n
       have VL := VL_n
       have VH := VH_n
       have VU := VU_n
       have VD := VD_n
       clear BB_n hS_n ht_n hna_n h1_n hnd_n h2_n VS_n VL_n VH_n VU_n VD_n
       refine hK.out _ _ ?_ (fun hH7 => ?_)
       ·exact ⟨VS.1,VS.2.1,VS.2.2.1,VL.1,VL.2.1,VH.1,VH.2.1⟩
       clear hK K hH6
       (try simp only [Act.put,xL4,xL5,xL6])
       refine xR [11] (h := ?_)
       refine xN (h := fun K hK => ?_)
       have hKp := VU.keepJ (.bool p2) (.slice a2 n2 c2) (.slice b2 m2 d2)
       have VS_n := VS.other3 (R := R92) (by omega) (.bool p2) (.slice a2 n2 c2) (.slice b2 m2 d2)
       have VL_n := VL.other3 (R := R92) (by omega) (.bool p2) (.slice a2 n2 c2) (.slice b2 m2 d2)
       have VH_n := VH.other3 (R := R92) (by omega) (.bool p2) (.slice a2 n2 c2) (.slice b2 m2 d2)
       have VD_n := VD.other3 (R := R92) (by omega) (.bool p2) (.slice a2 n2 c2) (.slice b2 m2 d2)
       have VU_n := VU.same (.bool p2) (.slice a2 n2 c2) (.slice b2 m2 d2)
       have hS_n := hS.keep hKp
       have ht_n := ht.keep hKp
       have hna_n := hna.keep hKp
       have h1_n := h1.keep hKp
       have hnd_n := hnd.keep hKp
       have h2_n := h2.keep hKp
       have BB_n := below_store3 (R := R92) BB (by omega) (.bool p2) (.slice a2 n2 c2) (.slice b2 m2 d2)
       clear hKp
       obtain ⟨VU_0,VU_1,VU_2,VU_3,VU_4,VU_5⟩ := id VU
       go_simp
       clear VU_0 VU_1 VU_2 VU_3 VU_4 VU_5
       clear BB hS ht hna h1 hnd h2 VS VL VH VU VD
       generalize ((W94.setCell ⟨R92,0,none⟩ (.bool p2)).setCell ⟨R92,1,none⟩ (.slice a2 n2 c2)).setCell ⟨R92,2,none⟩ (.slice b2 m2 d2) = W95 at *
       have BB := BB_n
       have hS := hS_n
       have ht := ht_n
       have hna := hna_n
       have h1 := h1_n
       have hnd := hnd_n
       have h2 := h2_n
       have VS := VS_n
       have VL := VL_n
       have VH := VH_n
       have VU := VU_n
       have VD := VD_n
       clear BB_n hS_n ht_n hna_n h1_n hnd_n h2_n VS_n VL_n VH_n VU_n VD_n
       refine hK.out _ _ ?_ (fun hH8 => ?_)
       ·exact ⟨VS.1,VS.2.1,VS.2.2.1,VL.1,VL.2.1,VH.1,VH.2.1⟩
       clear hK K hH7
       (try simp only [Act.put,xL4,xL5,xL6])
       refine wpAnyH_done (by kernel_rfl) ?_ _
       clear hH8
       go_wp2_with fail
       go_meet
       exact ⟨R93,R92,p1,a1,n1,c1,b1,m1,d1,p2,a2,n2,c2,b2,m2,d2,rfl,rfl,VD,VU,h1,h2,BB⟩
      refine xC (h := fun K hK => ?_) (hs := ?_)
      ·
       go_simp
       have hZ96 : W6.heap.size ≤ w57.heap.size := BB.size
       have hN96VS : R2 ≠ w57.heap.size := Nat.ne_of_lt VS.lt
       have hN96VL : R3 ≠ w57.heap.size := Nat.ne_of_lt VL.lt
       have hN96VH : R3 + 1 ≠ w57.heap.size := Nat.ne_of_lt VH.lt
       have hN96VU : R92 ≠ w57.heap.size := Nat.ne_of_lt VU.lt
       obtain ⟨W96,hW96,hS96,hL96,VD⟩ := V3.lay w57 27 (.bool false) (.slice none 0 0) (.slice none 0 0)
       replace hS := hS.below hL96
       replace ht := ht.below hL96
       replace hna := hna.below hL96
       replace h1 := h1.below hL96
       replace hnd := hnd.below hL96
       replace VS := VS.below hL96
       replace VL := VL.below hL96
       replace VH := VH.below hL96
       replace VU := VU.below hL96
       replace BB := BB.trans (hL96.mono BB.size)
       clear hL96
       rw [← hW96]
       generalize w57.heap.size = R96 at *
       clear hW96 hS96
       refine hK.out _ _ ?_ (fun hH5 => ?_)
       ·exact ⟨VS.1,VS.2.1,VS.2.2.1,VL.1,VL.2.1,VH.1,VH.2.1⟩
       clear hK K hH4
       (try simp only [Act.put,xL4,xL5,xL6])
       refine xR [7] (h := ?_)
       refine xN (h := fun K hK => ?_)
       go_simp
       refine (qsub_at _ _ qd S (L + (L + 1) + 1) _ (hnd.at _ (by omega)) hS (by omega) (by omega) ht).mono ?_
       rintro e w59 ⟨v2,rfl,h2,b59⟩
       obtain ⟨p2,a2,n2,c2,b2,m2,d2,rfl⟩ := h2.open
       go_wp2_with fail
       replace hS := hS.below b59
       replace ht := ht.below b59
       replace hna := hna.below b59
       replace h1 := h1.below b59
       replace hnd := hnd.below b59
       replace VS := VS.below b59
       replace VL := VL.below b59
       replace VH := VH.below b59
       replace VU := VU.below b59
       replace VD := VD.below b59
       replace BB := BB.trans (b59.mono BB.size)
       clear b59
       refine hK.out _ _ ?_ (fun hH6 => ?_)
       ·exact ⟨VS.1,VS.2.1,VS.2.2.1,VL.1,VL.2.1,VH.1,VH.2.1⟩
       clear hK K hH5
       (try simp only [Act.put,xL4,xL5,xL6])
       refine xR [10] (h := ?_)
       refine xN (h := fun K hK => ?_)
       have hKp := VD.keepJ (.bool p1) (.slice a1 n1 c1) (.slice b1 m1 d1)
       have VS_n := VS.other3 (R := R96) (by omega) (.bool p1) (.slice a1 n1 c1) (.slice b1 m1 d1)
       have VL_n := VL.other3 (R := R96) (by omega) (.bool p1) (.slice a1 n1 c1) (.slice b1 m1 d1)
       have VH_n := VH.other3 (R := R96) (by omega) (.bool p1) (.slice a1 n1 c1) (.slice b1 m1 d1)
       have VU_n := VU.other3 (R := R96) (by omega) (.bool p1) (.slice a1 n1 c1) (.slice b1 m1 d1)
       have VD_n := VD.same (.bool p1) (.slice a1 n1 c1) (.slice b1 m1 d1)
       have hS_n := hS.keep hKp
       have ht_n := ht.keep hKp
       have hna_n := hna.keep hKp
       have h1_n := h1.keep hKp
       have hnd_n := hnd.keep hKp
       have h2_n := h2.keep hKp
       have BB_n := below_store3 (R := R96) BB (by omega) (.bool p1) (.slice a1 n1 c1) (.slice b1 m1 d1)
       clear hKp
       obtain ⟨VD_0,VD_1,VD_2,VD_3,VD_4,VD_5⟩ := id VD
       go_simp
       clear VD_0 VD_1 VD_2 VD_3 VD_4 VD_5
       clear BB hS ht hna h1 hnd h2 VS VL VH VU VD
       generalize ((w59.setCell ⟨R96,0,none⟩ (.bool p1)).setCell ⟨R96,1,none⟩ (.slice a1 n1 c1)).setCell ⟨R96,2,none⟩ (.slice b1 m1 d1) = W97 at *
       have BB := BB_n
       have hS := hS_n
       have ht := ht_n
       have hna := hna_n
       have h1 := h1_n
       have hnd := hnd_n
       have h2 := h2_n
       have VS := VS_n
       have VL := VL_n
       have VH := VH_n
       have VU := VU_n
       have VD := VD_n
       clear BB_n hS_n ht_n hna_n h1_n hnd_n h2_n VS_n VL_n VH_n VU_n VD_n
       refine hK.out _ _ ?_ (fun hH7 => ?_)
       ·exact ⟨VS.1,VS.2.1,VS.2.2.1,VL.1,VL.2.1,VH.1,VH.2.1⟩
       clear hK K hH6
       (try simp only [Act.put,xL4,xL5,xL6])
       refine xR [11] (h := ?_)
       refine xN (h := fun K hK => ?_)
       have hKp := VU.keepJ (.bool p2) (.slice a2 n2 c2) (.slice b2 m2 d2)
       have VS_n := VS.other3 (R := R92) (by omega) (.bool p2) (.slice a2 n2 c2) (.slice b2 m2 d2)
       have VL_n := VL.other3 (R := R92) (by omega) (.bool p2) (.slice a2 n2 c2) (.slice b2 m2 d2)
       have VH_n := VH.other3 (R := R92) (by omega) (.bool p2) (.slice a2 n2 c2) (.slice b2 m2 d2)
       have VD_n := VD.other3 (R := R92) (by omega) (.bool p2) (.slice a2 n2 c2) (.slice b2 m2 d2)
       have VU_n := VU.same (.bool p2) (.slice a2 n2 c2) (.slice b2 m2 d2)
       have hS_n := hS.keep hKp
       have ht_n := ht.keep hKp
       have hna_n := hna.keep hKp
       have h1_n := h1.keep hKp
       have hnd_n := hnd.keep hKp
       have h2_n := h2.keep hKp
       have BB_n := below_store3 (R := R92) BB (by omega) (.bool p2) (.slice a2 n2 c2) (.slice b2 m2 d2)
       clear hKp
       obtain ⟨VU_0,VU_1,VU_2,VU_3,VU_4,VU_5⟩ := id VU
       go_simp
       clear VU_0 VU_1 VU_2 VU_3 VU_4 VU_5
       clear BB hS ht hna h1 hnd h2 VS VL VH VU VD
       generalize ((W97.setCell ⟨R92,0,none⟩ (.bool p2)).setCell ⟨R92,1,none⟩ (.slice a2 n2 c2)).setCell ⟨R92,2,none⟩ (.slice b2 m2 d2) = W98 at *
       have BB := BB_n
       have hS := hS_n
       have ht := ht_n
       have hna := hna_n
       have h1 := h1_n
       have hnd := hnd_n
       have h2 := h2_n
       have VS := VS_n
       have VL := VL_n
       have VH := VH_n
       have VU := VU_n
       have VD := VD_n
       clear BB_n hS_n ht_n hna_n h1_n hnd_n h2_n VS_n VL_n VH_n VU_n VD_n
       refine hK.out _ _ ?_ (fun hH8 => ?_)
       ·exact ⟨VS.1,VS.2.1,VS.2.2.1,VL.1,VL.2.1,VH.1,VH.2.1⟩
       clear hK K hH7
       (try simp only [Act.put,xL4,xL5,xL6])
       refine wpAnyH_done (by kernel_rfl) ?_ _
       clear hH8
       go_wp2_with fail
       go_meet
       exact ⟨R96,R92,p1,a1,n1,c1,b1,m1,d1,p2,a2,n2,c2,b2,m2,d2,rfl,rfl,VD,VU,h1,h2,BB⟩
      exact AllReadyH.nil
     refine xC (h := fun K hK => ?_) (hs := ?_)
     ·
      go_simp
      have hZ99 : W6.heap.size ≤ w56.heap.size := BB.size
      have hN99VS : R2 ≠ w56.heap.size := Nat.ne_of_lt VS.lt
      have hN99VL : R3 ≠ w56.heap.size := Nat.ne_of_lt VL.lt
      have hN99VH : R3 + 1 ≠ w56.heap.size := Nat.ne_of_lt VH.lt
      have hN99VU : R92 ≠ w56.heap.size := Nat.ne_of_lt VU.lt
      obtain ⟨W99,hW99,hS99,hL99,VD⟩ := V3.lay w56 27 (.bool false) (.slice none 0 0) (.slice none 0 0)
      replace hS := hS.below hL99
      replace ht := ht.below hL99
      replace hna := hna.below hL99
      replace h1 := h1.below hL99
      replace VS := VS.below hL99
      replace VL := VL.below hL99
      replace VH := VH.below hL99
      replace VU := VU.below hL99
      replace BB := BB.trans (hL99.mono BB.size)
      clear hL99
      rw [← hW99]
      generalize w56.heap.size = R99 at *
      clear hW99 hS99
      refine hK.out _ _ ?_ (fun hH4 => ?_)
      ·exact ⟨VS.1,VS.2.1,VS.2.2.1,VL.1,VL.2.1,VH.1,VH.2.1⟩
      clear hK K hH3
      (try simp only [Act.put,xL4,xL5,xL6])
      refine xR [5] (h := ?_)
      refine xN (h := fun K hK => ?_)
      go_simp
      refine (number_at (D : Int) (E : Int) _ (by omega) (by omega) (by omega) (by omega) ht).mono ?_
      rintro e w60 ⟨nd,rfl,hnd,b60⟩
      rw [hqd] at hnd
      go_wp2_with fail
      replace hS := hS.below b60
      replace ht := ht.below b60
      replace hna := hna.below b60
      replace h1 := h1.below b60
      replace VS := VS.below b60
      replace VL := VL.below b60
      replace VH := VH.below b60
      replace VU := VU.below b60
      replace VD := VD.below b60
      replace BB := BB.trans (b60.mono BB.size)
      clear b60
      refine hK.out _ _ ?_ (fun hH5 => ?_)
      ·exact ⟨VS.1,VS.2.1,VS.2.2.1,VL.1,VL.2.1,VH.1,VH.2.1⟩
      clear hK K hH4
      (try simp only [Act.put,xL4,xL5,xL6])
      refine xR [7] (h := ?_)
      refine xN (h := fun K hK => ?_)
      go_simp
      refine (qsub_at _ _ qd S (L + (L + 1) + 1) _ (hnd.at _ (by omega)) hS (by omega) (by omega) ht).mono ?_
      rintro e w61 ⟨v2,rfl,h2,b61⟩
      obtain ⟨p2,a2,n2,c2,b2,m2,d2,rfl⟩ := h2.open
      go_wp2_with fail
      replace hS := hS.below b61
      replace ht := ht.below b61
      replace hna := hna.below b61
      replace h1 := h1.below b61
      replace hnd := hnd.below b61
      replace VS := VS.below b61
      replace VL := VL.below b61
      replace VH := VH.below b61
      replace VU := VU.below b61
      replace VD := VD.below b61
      replace BB := BB.trans (b61.mono BB.size)
      clear b61
      refine hK.out _ _ ?_ (fun hH6 => ?_)
      ·exact ⟨VS.1,VS.2.1,VS.2.2.1,VL.1,VL.2.1,VH.1,VH.2.1⟩
      clear hK K hH5
      (try simp only [Act.put,xL4,xL5,xL6])
      refine xR [10] (h := ?_)
      refine xN (h := fun K hK => ?_)
      have hKp := VD.keepJ (.bool p1) (.slice a1 n1 c1) (.slice b1 m1 d1)
      have VS_n := VS.other3 (R := R99) (by omega) (.bool p1) (.slice a1 n1 c1) (.slice b1 m1 d1)
      have VL_n := VL.other3 (R := R99) (by omega) (.bool p1) (.slice a1 n1 c1) (.slice b1 m1 d1)
      have VH_n := VH.other3 (R := R99) (by omega) (.bool p1) (.slice a1 n1 c1) (.slice b1 m1 d1)
      have VU_n := VU.other3 (R := R99) (by omega) (.bool p1) (.slice a1 n1 c1) (.slice b1 m1 d1)
      have VD_n := VD.same (.bool p1) (.slice a1 n1 c1) (.slice b1 m1 d1)
      have hS_n := hS.keep hKp
      have ht_n := ht.keep hKp
      have hna_n := hna.keep hKp
      have h1_n := h1.keep hKp
      have hnd_n := hnd.keep hKp
      have h2_n := h2.keep hKp
      have BB_n := below_store3 (R := R99) BB (by omega) (.bool p1) (.slice a1 n1 c1) (.slice b1 m1 d1)
      clear hKp
      obtain ⟨VD_0,VD_1,VD_2,VD_3,VD_4,VD_5⟩ := id VD
      go_simp
      clear VD_0 VD_1 VD_2 VD_3 VD_4 VD_5
      clear BB hS ht hna h1 hnd h2 VS VL VH VU VD
      generalize ((w61.setCell ⟨R99,0,none⟩ (.bool p1)).setCell ⟨R99,1,none⟩ (.slice a1 n1 c1)).setCell ⟨R99,2,none⟩ (.slice b1 m1 d1) = W100 at *
      have BB := BB_n
      have hS := hS_n
      have ht := ht_n
      have hna := hna_n
      have h1 := h1_n
      have hnd := hnd_n
      have h2 := h2_n
      have VS := VS_n
      have VL := VL_n
      have VH := VH_n
      have VU := VU_n
      have VD := VD_n
      clear BB_n hS_n ht_n hna_n h1_n hnd_n h2_n VS_n VL_n VH_n VU_n VD_n
      refine hK.out _ _ ?_ (fun hH7 => ?_)
      ·exact ⟨VS.1,VS.2.1,VS.2.2.1,VL.1,VL.2.1,VH.1,VH.2.1⟩
      clear hK K hH6
      (try simp only [Act.put,xL4,xL5,xL6])
      refine xR [11] (h := ?_)
      refine xN (h := fun K hK => ?_)
      have hKp := VU.keepJ (.bool p2) (.slice a2 n2 c2) (.slice b2 m2 d2)
      have VS_n := VS.other3 (R := R92) (by omega) (.bool p2) (.slice a2 n2 c2) (.slice b2 m2 d2)
      have VL_n := VL.other3 (R := R92) (by omega) (.bool p2) (.slice a2 n2 c2) (.slice b2 m2 d2)
      have VH_n := VH.other3 (R := R92) (by omega) (.bool p2) (.slice a2 n2 c2) (.slice b2 m2 d2)
      have VD_n := VD.other3 (R := R92) (by omega) (.bool p2) (.slice a2 n2 c2) (.slice b2 m2 d2)
      have VU_n := VU.same (.bool p2) (.slice a2 n2 c2) (.slice b2 m2 d2)
      have hS_n := hS.keep hKp
      have ht_n := ht.keep hKp
      have hna_n := hna.keep hKp
      have h1_n := h1.keep hKp
      have hnd_n := hnd.keep hKp
      have h2_n := h2.keep hKp
      have BB_n := below_store3 (R := R92) BB (by omega) (.bool p2) (.slice a2 n2 c2) (.slice b2 m2 d2)
      clear hKp
      obtain ⟨VU_0,VU_1,VU_2,VU_3,VU_4,VU_5⟩ := id VU
      go_simp
      clear VU_0 VU_1 VU_2 VU_3 VU_4 VU_5
      clear BB hS ht hna h1 hnd h2 VS VL VH VU VD
      generalize ((W100.setCell ⟨R92,0,none⟩ (.bool p2)).setCell ⟨R92,1,none⟩ (.slice a2 n2 c2)).setCell ⟨R92,2,none⟩ (.slice b2 m2 d2) = W101 at *
      have BB := BB_n
      have hS := hS_n
      have ht := ht_n
      have hna := hna_n
      have h1 := h1_n
      have hnd := hnd_n
      have h2 := h2_n
      have VS := VS_n
      have VL := VL_n
      have VH := VH_n
      have VU := VU_n
      have VD := VD_n
      clear BB_n hS_n ht_n hna_n h1_n hnd_n h2_n VS_n VL_n VH_n VU_n VD_n
      refine hK.out _ _ ?_ (fun hH8 => ?_)
      ·exact ⟨VS.1,VS.2.1,VS.2.2.1,VL.1,VL.2.1,VH.1,VH.2.1⟩
      clear hK K hH7
      (try simp only [Act.put,xL4,xL5,xL6])
      refine wpAnyH_done (by kernel_rfl) ?_ _
      clear hH8
      go_wp2_with fail
      go_meet
      exact ⟨R99,R92,p1,a1,n1,c1,b1,m1,d1,p2,a2,n2,c2,b2,m2,d2,rfl,rfl,VD,VU,h1,h2,BB⟩
     exact AllReadyH.nil
    refine xC (h := fun K hK => ?_) (hs := ?_)
    ·
     go_simp
     have hZ102 : W6.heap.size ≤ w55.heap.size := BB.size
     have hN102VS : R2 ≠ w55.heap.size := Nat.ne_of_lt VS.lt
     have hN102VL : R3 ≠ w55.heap.size := Nat.ne_of_lt VL.lt
     have hN102VH : R3 + 1 ≠ w55.heap.size := Nat.ne_of_lt VH.lt
     have hN102VU : R92 ≠ w55.heap.size := Nat.ne_of_lt VU.lt
     obtain ⟨W102,hW102,hS102,hL102,VD⟩ := V3.lay w55 27 (.bool false) (.slice none 0 0) (.slice none 0 0)
     replace hS := hS.below hL102
     replace ht := ht.below hL102
     replace hna := hna.below hL102
     replace VS := VS.below hL102
     replace VL := VL.below hL102
     replace VH := VH.below hL102
     replace VU := VU.below hL102
     replace BB := BB.trans (hL102.mono BB.size)
     clear hL102
     rw [← hW102]
     generalize w55.heap.size = R102 at *
     clear hW102 hS102
     refine hK.out _ _ ?_ (fun hH3 => ?_)
     ·exact ⟨VS.1,VS.2.1,VS.2.2.1,VL.1,VL.2.1,VH.1,VH.2.1⟩
     clear hK K hH2
     (try simp only [Act.put,xL4,xL5,xL6])
     refine xR [3] (h := ?_)
     refine xN (h := fun K hK => ?_)
     go_simp
     refine (qsub_at _ _ S qa (L + (L + 1) + 1) _ hS (hna.at _ (by omega)) (by omega) (by omega) ht).mono ?_
     rintro e w62 ⟨v1,rfl,h1,b62⟩
     obtain ⟨p1,a1,n1,c1,b1,m1,d1,rfl⟩ := h1.open
     go_wp2_with fail
     replace hS := hS.below b62
     replace ht := ht.below b62
     replace hna := hna.below b62
     replace VS := VS.below b62
     replace VL := VL.below b62
     replace VH := VH.below b62
     replace VU := VU.below b62
     replace VD := VD.below b62
     replace BB := BB.trans (b62.mono BB.size)
     clear b62
     refine hK.out _ _ ?_ (fun hH4 => ?_)
     ·exact ⟨VS.1,VS.2.1,VS.2.2.1,VL.1,VL.2.1,VH.1,VH.2.1⟩
     clear hK K hH3
     (try simp only [Act.put,xL4,xL5,xL6])
     refine xR [5] (h := ?_)
     refine xN (h := fun K hK => ?_)
     go_simp
     refine (number_at (D : Int) (E : Int) _ (by omega) (by omega) (by omega) (by omega) ht).mono ?_
     rintro e w63 ⟨nd,rfl,hnd,b63⟩
     rw [hqd] at hnd
     go_wp2_with fail
     replace hS := hS.below b63
     replace ht := ht.below b63
     replace hna := hna.below b63
     replace h1 := h1.below b63
     replace VS := VS.below b63
     replace VL := VL.below b63
     replace VH := VH.below b63
     replace VU := VU.below b63
     replace VD := VD.below b63
     replace BB := BB.trans (b63.mono BB.size)
     clear b63
     refine hK.out _ _ ?_ (fun hH5 => ?_)
     ·exact ⟨VS.1,VS.2.1,VS.2.2.1,VL.1,VL.2.1,VH.1,VH.2.1⟩
     clear hK K hH4
     (try simp only [Act.put,xL4,xL5,xL6])
     refine xR [7] (h := ?_)
     refine xN (h := fun K hK => ?_)
     go_simp
     refine (qsub_at _ _ qd S (L + (L + 1) + 1) _ (hnd.at _ (by omega)) hS (by omega) (by omega) ht).mono ?_
     rintro e w64 ⟨v2,rfl,h2,b64⟩
     obtain ⟨p2,a2,n2,c2,b2,m2,d2,rfl⟩ := h2.open
     go_wp2_with fail
     replace hS := hS.below b64
     replace ht := ht.below b64
     replace hna := hna.below b64
     replace h1 := h1.below b64
     replace hnd := hnd.below b64
     replace VS := VS.below b64
     replace VL := VL.below b64
     replace VH := VH.below b64
     replace VU := VU.below b64
     replace VD := VD.below b64
     replace BB := BB.trans (b64.mono BB.size)
     clear b64
     refine hK.out _ _ ?_ (fun hH6 => ?_)
     ·exact ⟨VS.1,VS.2.1,VS.2.2.1,VL.1,VL.2.1,VH.1,VH.2.1⟩
     clear hK K hH5
     (try simp only [Act.put,xL4,xL5,xL6])
     refine xR [10] (h := ?_)
     refine xN (h := fun K hK => ?_)
     have hKp := VD.keepJ (.bool p1) (.slice a1 n1 c1) (.slice b1 m1 d1)
     have VS_n := VS.other3 (R := R102) (by omega) (.bool p1) (.slice a1 n1 c1) (.slice b1 m1 d1)
     have VL_n := VL.other3 (R := R102) (by omega) (.bool p1) (.slice a1 n1 c1) (.slice b1 m1 d1)
     have VH_n := VH.other3 (R := R102) (by omega) (.bool p1) (.slice a1 n1 c1) (.slice b1 m1 d1)
     have VU_n := VU.other3 (R := R102) (by omega) (.bool p1) (.slice a1 n1 c1) (.slice b1 m1 d1)
     have VD_n := VD.same (.bool p1) (.slice a1 n1 c1) (.slice b1 m1 d1)
     have hS_n := hS.keep hKp
     have ht_n := ht.keep hKp
     have hna_n := hna.keep hKp
     have h1_n := h1.keep hKp
     have hnd_n := hnd.keep hKp
     have h2_n := h2.keep hKp
     have BB_n := below_store3 (R := R102) BB (by omega) (.bool p1) (.slice a1 n1 c1) (.slice b1 m1 d1)
     clear hKp
     obtain ⟨VD_0,VD_1,VD_2,VD_3,VD_4,VD_5⟩ := id VD
     go_simp
     clear VD_0 VD_1 VD_2 VD_3 VD_4 VD_5
     clear BB hS ht hna h1 hnd h2 VS VL VH VU VD
     generalize ((w64.setCell ⟨R102,0,none⟩ (.bool p1)).setCell ⟨R102,1,none⟩ (.slice a1 n1 c1)).setCell ⟨R102,2,none⟩ (.slice b1 m1 d1) = W103 at *
     have BB := BB_n
     have hS := hS_n
     have ht := ht_n
     have hna := hna_n
     have h1 := h1_n
     have hnd := hnd_n
     have h2 := h2_n
     have VS := VS_n
     have VL := VL_n
     have VH := VH_n
     have VU := VU_n
     have VD := VD_n
     clear BB_n hS_n ht_n hna_n h1_n hnd_n h2_n VS_n VL_n VH_n VU_n VD_n
     refine hK.out _ _ ?_ (fun hH7 => ?_)
     ·exact ⟨VS.1,VS.2.1,VS.2.2.1,VL.1,VL.2.1,VH.1,VH.2.1⟩
     clear hK K hH6
     (try simp only [Act.put,xL4,xL5,xL6])
     refine xR [11] (h := ?_)
     refine xN (h := fun K hK => ?_)
     have hKp := VU.keepJ (.bool p2) (.slice a2 n2 c2) (.slice b2 m2 d2)
     have VS_n := VS.other3 (R := R92) (by omega) (.bool p2) (.slice a2 n2 c2) (.slice b2 m2 d2)
     have VL_n := VL.other3 (R := R92) (by omega) (.bool p2) (.slice a2 n2 c2) (.slice b2 m2 d2)
     have VH_n := VH.other3 (R := R92) (by omega) (.bool p2) (.slice a2 n2 c2) (.slice b2 m2 d2)
     have VD_n := VD.other3 (R := R92) (by omega) (.bool p2) (.slice a2 n2 c2) (.slice b2 m2 d2)
     have VU_n := VU.same (.bool p2) (.slice a2 n2 c2) (.slice b2 m2 d2)
     have hS_n := hS.keep hKp
     have ht_n := ht.keep hKp
     have hna_n := hna.keep hKp
     have h1_n := h1.keep hKp
     have hnd_n := hnd.keep hKp
     have h2_n := h2.keep hKp
     have BB_n := below_store3 (R := R92) BB (by omega) (.bool p2) (.slice a2 n2 c2) (.slice b2 m2 d2)
     clear hKp
     obtain ⟨VU_0,VU_1,VU_2,VU_3,VU_4,VU_5⟩ := id VU
     go_simp
     clear VU_0 VU_1 VU_2 VU_3 VU_4 VU_5
     clear BB hS ht hna h1 hnd h2 VS VL VH VU VD
     generalize ((W103.setCell ⟨R92,0,none⟩ (.bool p2)).setCell ⟨R92,1,none⟩ (.slice a2 n2 c2)).setCell ⟨R92,2,none⟩ (.slice b2 m2 d2) = W104 at *
     have BB := BB_n
     have hS := hS_n
     have ht := ht_n
     have hna := hna_n
     have h1 := h1_n
     have hnd := hnd_n
     have h2 := h2_n
     have VS := VS_n
     have VL := VL_n
     have VH := VH_n
     have VU := VU_n
     have VD := VD_n
     clear BB_n hS_n ht_n hna_n h1_n hnd_n h2_n VS_n VL_n VH_n VU_n VD_n
     refine hK.out _ _ ?_ (fun hH8 => ?_)
     ·exact ⟨VS.1,VS.2.1,VS.2.2.1,VL.1,VL.2.1,VH.1,VH.2.1⟩
     clear hK K hH7
     (try simp only [Act.put,xL4,xL5,xL6])
     refine wpAnyH_done (by kernel_rfl) ?_ _
     clear hH8
     go_wp2_with fail
     go_meet
     exact ⟨R102,R92,p1,a1,n1,c1,b1,m1,d1,p2,a2,n2,c2,b2,m2,d2,rfl,rfl,VD,VU,h1,h2,BB⟩
    exact AllReadyH.nil
   refine xC (h := fun K hK => ?_) (hs := ?_)
   ·
    go_simp
    have hZ105 : W6.heap.size ≤ W92.heap.size := BB.size
    have hN105VS : R2 ≠ W92.heap.size := Nat.ne_of_lt VS.lt
    have hN105VL : R3 ≠ W92.heap.size := Nat.ne_of_lt VL.lt
    have hN105VH : R3 + 1 ≠ W92.heap.size := Nat.ne_of_lt VH.lt
    have hN105VU : R92 ≠ W92.heap.size := Nat.ne_of_lt VU.lt
    obtain ⟨W105,hW105,hS105,hL105,VD⟩ := V3.lay W92 27 (.bool false) (.slice none 0 0) (.slice none 0 0)
    replace hS := hS.below hL105
    replace ht := ht.below hL105
    replace VS := VS.below hL105
    replace VL := VL.below hL105
    replace VH := VH.below hL105
    replace VU := VU.below hL105
    replace BB := BB.trans (hL105.mono BB.size)
    clear hL105
    rw [← hW105]
    generalize W92.heap.size = R105 at *
    clear hW105 hS105
    refine hK.out _ _ ?_ (fun hH2 => ?_)
    ·exact ⟨VS.1,VS.2.1,VS.2.2.1,VL.1,VL.2.1,VH.1,VH.2.1⟩
    clear hK K hH1
    (try simp only [Act.put,xL4,xL5,xL6])
    refine xR [2] (h := ?_)
    refine xN (h := fun K hK => ?_)
    go_simp
    refine (number_at (A : Int) (C : Int) _ (by omega) (by omega) (by omega) (by omega) ht).mono ?_
    rintro e w65 ⟨na,rfl,hna,b65⟩
    rw [hqa] at hna
    go_wp2_with fail
    replace hS := hS.below b65
    replace ht := ht.below b65
    replace VS := VS.below b65
    replace VL := VL.below b65
    replace VH := VH.below b65
    replace VU := VU.below b65
    replace VD := VD.below b65
    replace BB := BB.trans (b65.mono BB.size)
    clear b65
    refine hK.out _ _ ?_ (fun hH3 => ?_)
    ·exact ⟨VS.1,VS.2.1,VS.2.2.1,VL.1,VL.2.1,VH.1,VH.2.1⟩
    clear hK K hH2
    (try simp only [Act.put,xL4,xL5,xL6])
    refine xR [3] (h := ?_)
    refine xN (h := fun K hK => ?_)
    go_simp
    refine (qsub_at _ _ S qa (L + (L + 1) + 1) _ hS (hna.at _ (by omega)) (by omega) (by omega) ht).mono ?_
    rintro e w66 ⟨v1,rfl,h1,b66⟩
    obtain ⟨p1,a1,n1,c1,b1,m1,d1,rfl⟩ := h1.open
    go_wp2_with fail
    replace hS := hS.below b66
    replace ht := ht.below b66
    replace hna := hna.below b66
    replace VS := VS.below b66
    replace VL := VL.below b66
    replace VH := VH.below b66
    replace VU := VU.below b66
    replace VD := VD.below b66
    replace BB := BB.trans (b66.mono BB.size)
    clear b66
    refine hK.out _ _ ?_ (fun hH4 => ?_)
    ·exact ⟨VS.1,VS.2.1,VS.2.2.1,VL.1,VL.2.1,VH.1,VH.2.1⟩
    clear hK K hH3
    (try simp only [Act.put,xL4,xL5,xL6])
    refine xR [5] (h := ?_)
    refine xN (h := fun K hK => ?_)
    go_simp
    refine (number_at (D : Int) (E : Int) _ (by omega) (by omega) (by omega) (by omega) ht).mono ?_
    rintro e w67 ⟨nd,rfl,hnd,b67⟩
    rw [hqd] at hnd
    go_wp2_with fail
    replace hS := hS.below b67
    replace ht := ht.below b67
    replace hna := hna.below b67
    replace h1 := h1.below b67
    replace VS := VS.below b67
    replace VL := VL.below b67
    replace VH := VH.below b67
    replace VU := VU.below b67
    replace VD := VD.below b67
    replace BB := BB.trans (b67.mono BB.size)
    clear b67
    refine hK.out _ _ ?_ (fun hH5 => ?_)
    ·exact ⟨VS.1,VS.2.1,VS.2.2.1,VL.1,VL.2.1,VH.1,VH.2.1⟩
    clear hK K hH4
    (try simp only [Act.put,xL4,xL5,xL6])
    refine xR [7] (h := ?_)
    refine xN (h := fun K hK => ?_)
    go_simp
    refine (qsub_at _ _ qd S (L + (L + 1) + 1) _ (hnd.at _ (by omega)) hS (by omega) (by omega) ht).mono ?_
    rintro e w68 ⟨v2,rfl,h2,b68⟩
    obtain ⟨p2,a2,n2,c2,b2,m2,d2,rfl⟩ := h2.open
    go_wp2_with fail
    replace hS := hS.below b68
    replace ht := ht.below b68
    replace hna := hna.below b68
    replace h1 := h1.below b68
    replace hnd := hnd.below b68
    replace VS := VS.below b68
    replace VL := VL.below b68
    replace VH := VH.below b68
    replace VU := VU.below b68
    replace VD := VD.below b68
    replace BB := BB.trans (b68.mono BB.size)
    clear b68
    refine hK.out _ _ ?_ (fun hH6 => ?_)
    ·exact ⟨VS.1,VS.2.1,VS.2.2.1,VL.1,VL.2.1,VH.1,VH.2.1⟩
    clear hK K hH5
    (try simp only [Act.put,xL4,xL5,xL6])
    refine xR [10] (h := ?_)
    refine xN (h := fun K hK => ?_)
    have hKp := VD.keepJ (.bool p1) (.slice a1 n1 c1) (.slice b1 m1 d1)
    have VS_n := VS.other3 (R := R105) (by omega) (.bool p1) (.slice a1 n1 c1) (.slice b1 m1 d1)
    have VL_n := VL.other3 (R := R105) (by omega) (.bool p1) (.slice a1 n1 c1) (.slice b1 m1 d1)
    have VH_n := VH.other3 (R := R105) (by omega) (.bool p1) (.slice a1 n1 c1) (.slice b1 m1 d1)
    have VU_n := VU.other3 (R := R105) (by omega) (.bool p1) (.slice a1 n1 c1) (.slice b1 m1 d1)
    have VD_n := VD.same (.bool p1) (.slice a1 n1 c1) (.slice b1 m1 d1)
    have hS_n := hS.keep hKp
    have ht_n := ht.keep hKp
    have hna_n := hna.keep hKp
    have h1_n := h1.keep hKp
    have hnd_n := hnd.keep hKp
    have h2_n := h2.keep hKp
    have BB_n := below_store3 (R := R105) BB (by omega) (.bool p1) (.slice a1 n1 c1) (.slice b1 m1 d1)
    clear hKp
    obtain ⟨VD_0,VD_1,VD_2,VD_3,VD_4,VD_5⟩ := id VD
    go_simp
    clear VD_0 VD_1 VD_2 VD_3 VD_4 VD_5
    clear BB hS ht hna h1 hnd h2 VS VL VH VU VD
    generalize ((w68.setCell ⟨R105,0,none⟩ (.bool p1)).setCell ⟨R105,1,none⟩ (.slice a1 n1 c1)).setCell ⟨R105,2,none⟩ (.slice b1 m1 d1) = W106 at *
    have BB := BB_n
    have hS := hS_n
    have ht := ht_n
    have hna := hna_n
    have h1 := h1_n
    have hnd := hnd_n
    have h2 := h2_n
    have VS := VS_n
    have VL := VL_n
    have VH := VH_n
    have VU := VU_n
    have VD := VD_n
    clear BB_n hS_n ht_n hna_n h1_n hnd_n h2_n VS_n VL_n VH_n VU_n VD_n
    refine hK.out _ _ ?_ (fun hH7 => ?_)
    ·exact ⟨VS.1,VS.2.1,VS.2.2.1,VL.1,VL.2.1,VH.1,VH.2.1⟩
    clear hK K hH6
    (try simp only [Act.put,xL4,xL5,xL6])
    refine xR [11] (h := ?_)
    refine xN (h := fun K hK => ?_)
    have hKp := VU.keepJ (.bool p2) (.slice a2 n2 c2) (.slice b2 m2 d2)
    have VS_n := VS.other3 (R := R92) (by omega) (.bool p2) (.slice a2 n2 c2) (.slice b2 m2 d2)
    have VL_n := VL.other3 (R := R92) (by omega) (.bool p2) (.slice a2 n2 c2) (.slice b2 m2 d2)
    have VH_n := VH.other3 (R := R92) (by omega) (.bool p2) (.slice a2 n2 c2) (.slice b2 m2 d2)
    have VD_n := VD.other3 (R := R92) (by omega) (.bool p2) (.slice a2 n2 c2) (.slice b2 m2 d2)
    have VU_n := VU.same (.bool p2) (.slice a2 n2 c2) (.slice b2 m2 d2)
    have hS_n := hS.keep hKp
    have ht_n := ht.keep hKp
    have hna_n := hna.keep hKp
    have h1_n := h1.keep hKp
    have hnd_n := hnd.keep hKp
    have h2_n := h2.keep hKp
    have BB_n := below_store3 (R := R92) BB (by omega) (.bool p2) (.slice a2 n2 c2) (.slice b2 m2 d2)
    clear hKp
    obtain ⟨VU_0,VU_1,VU_2,VU_3,VU_4,VU_5⟩ := id VU
    go_simp
    clear VU_0 VU_1 VU_2 VU_3 VU_4 VU_5
    clear BB hS ht hna h1 hnd h2 VS VL VH VU VD
    generalize ((W106.setCell ⟨R92,0,none⟩ (.bool p2)).setCell ⟨R92,1,none⟩ (.slice a2 n2 c2)).setCell ⟨R92,2,none⟩ (.slice b2 m2 d2) = W107 at *
    have BB := BB_n
    have hS := hS_n
    have ht := ht_n
    have hna := hna_n
    have h1 := h1_n
    have hnd := hnd_n
    have h2 := h2_n
    have VS := VS_n
    have VL := VL_n
    have VH := VH_n
    have VU := VU_n
    have VD := VD_n
    clear BB_n hS_n ht_n hna_n h1_n hnd_n h2_n VS_n VL_n VH_n VU_n VD_n
    refine hK.out _ _ ?_ (fun hH8 => ?_)
    ·exact ⟨VS.1,VS.2.1,VS.2.2.1,VL.1,VL.2.1,VH.1,VH.2.1⟩
    clear hK K hH7
    (try simp only [Act.put,xL4,xL5,xL6])
    refine wpAnyH_done (by kernel_rfl) ?_ _
    clear hH8
    go_wp2_with fail
    go_meet
    exact ⟨R105,R92,p1,a1,n1,c1,b1,m1,d1,p2,a2,n2,c2,b2,m2,d2,rfl,rfl,VD,VU,h1,h2,BB⟩
   exact AllReadyH.nil
  exact AllReadyH.nil
 case rest =>
  obtain ⟨RD,RU,p1,a1,n1,c1,b1,m1,d1,p2,a2,n2,c2,b2,m2,d2,rfl,rfl,VD,VU,h1,h2,hbW⟩ := hcut
  replace ht := ht.below hbW
  replace hgf := hgf.below hbW
  replace hS := hS.below hbW
  replace VR := VR.below hbW
  replace VF := VF.below hbW
  replace VS := VS.below hbW
  replace VL := VL.below hbW
  replace VH := VH.below hbW
  replace VM := VM.below hbW
  replace BB := BB.trans (hbW.mono BB.size)
  clear hbW
  obtain ⟨VD_0,VD_1,VD_2,VD_3,VD_4,VD_5⟩ := id VD
  obtain ⟨VU_0,VU_1,VU_2,VU_3,VU_4,VU_5⟩ := id VU
  go_wp2_with fail
  clear VD_0 VD_1 VD_2 VD_3 VD_4 VD_5 VU_0 VU_1 VU_2 VU_3 VU_4 VU_5
  refine (qcmp_at _ _ (S - qa) (qd - S) (L + (L + 1) + 1 + 2 + 1) _ (h1.at _ h1s) (h2.at _ h2s) (by omega) (by omega)).mono ?_
  rintro e w69 ⟨rfl,b69⟩
  replace ht := ht.below b69
  replace hgf := hgf.below b69
  replace hS := hS.below b69
  replace h1 := h1.below b69
  replace h2 := h2.below b69
  replace VR := VR.below b69
  replace VF := VF.below b69
  replace VS := VS.below b69
  replace VL := VL.below b69
  replace VH := VH.below b69
  replace VM := VM.below b69
  replace VD := VD.below b69
  replace VU := VU.below b69
  replace BB := BB.trans (b69.mono BB.size)
  clear b69
  clear h1 h2 VD VU
  have HC : Hid ((cmpQ (S - qa) (qd - S) > 0 ↔ qd - S < S - qa) ∧ (cmpQ (S - qa) (qd - S) = 0 ↔ S - qa = qd - S)) := cmpQ_two _ _
  generalize cmpQ (S - qa) (qd - S) = cc at *
  by_cases hc : qd - S < S - qa ∨ (S - qa = qd - S ∧ E < C)
  ·have HI : Hid (nearQ q A C D E = F + qd) := by show _ = _; rw [HN.out,if_pos hc]
   clear HN
   by_cases hz : cc = 0
   ·have hce : (E : Int) < (C : Int) := by
     rcases hc with g | g
     ·exact absurd (HC.out.1.2 g) (by omega)
     ·have := g.2; omega
    subst hz
    clear HC
    clear hc
    obtain ⟨i0,i1,i2,i3⟩ := id VL
    obtain ⟨j0,j1_,j2_,j3⟩ := id VH
    have hKp := VM.keepF (.int .i64 (D : Int)) (.int .i64 (E : Int))
    have VR_n := VR.other2 (R := R3 + 1 + 1) (by omega) (.int .i64 (D : Int)) (.int .i64 (E : Int))
    have VF_n := VF.other2 (R := R3 + 1 + 1) (by omega) (.int .i64 (D : Int)) (.int .i64 (E : Int))
    have VS_n := VS.other2 (R := R3 + 1 + 1) (by omega) (.int .i64 (D : Int)) (.int .i64 (E : Int))
    have VL_n := VL.other (R := R3 + 1 + 1) (by omega) (.int .i64 (D : Int)) (.int .i64 (E : Int))
    have VH_n := VH.other (R := R3 + 1 + 1) (by omega) (.int .i64 (D : Int)) (.int .i64 (E : Int))
    have VM_n := VM.same (.int .i64 (D : Int)) (.int .i64 (E : Int))
    have ht_n := ht.keepL hKp
    have hgf_n := hgf.keepL hKp
    have hS_n := hS.keepL hKp
    have BB_n := below_store2 (R := R3 + 1 + 1) BB (by omega) (.int .i64 (D : Int)) (.int .i64 (E : Int))
    clear hKp
    obtain ⟨VM_0,VM_1,VM_2,VM_3⟩ := id VM
    go_wp2
    clear VM_0 VM_1 VM_2 VM_3
    clear BB ht hgf hS VR VF VS VL VH VM
    generalize (w69.setCell ⟨R3 + 1 + 1,0,none⟩ (.int .i64 (D : Int))).setCell ⟨R3 + 1 + 1,1,none⟩ (.int .i64 (E : Int)) = W108 at *
    have BB := BB_n
    have ht := ht_n
    have hgf := hgf_n
    have hS := hS_n
    have VR := VR_n
    have VF := VF_n
    have VS := VS_n
    have VL := VL_n
    have VH := VH_n
    have VM := VM_n
    clear BB_n ht_n hgf_n hS_n VR_n VF_n VS_n VL_n VH_n VM_n
    clear i0 i1 i2 i3 j0 j1_ j2_ j3
    have hDr : Below W108.heap.size W108 W108.drew := (Below.refl _ _).drew
    replace ht := ht.below hDr
    replace hgf := hgf.below hDr
    replace hS := hS.below hDr
    replace VR := VR.below hDr
    replace VF := VF.below hDr
    replace VS := VS.below hDr
    replace VL := VL.below hDr
    replace VH := VH.below hDr
    replace VM := VM.below hDr
    replace BB := BB.trans (hDr.mono BB.size)
    clear hDr
    refine wp_region_held_drew (S := (fun w' => w'.cell? ⟨R1,0,none⟩ = some (.bool pg) ∧ w'.cell? ⟨R1,1,none⟩ = some (.slice ag ng cg) ∧ w'.cell? ⟨R1,2,none⟩ = some (.slice bg mg dg_) ∧ w'.cell? ⟨R3 + 1 + 1,0,none⟩ = some (.int .i64 (D : Int)) ∧ w'.cell? ⟨R3 + 1 + 1,1,none⟩ = some (.int .i64 (E : Int)))) (by kernel_rfl) ?_ (fun hHeld => ?_)
    ·exact ⟨VF.1,VF.2.1,VF.2.2.1,VM.1,VM.2.1⟩
    generalize W108.drew = W109 at *
    refine xT 0 (v := ?_) (hy := Or.inl ⟨by rfl,?_⟩) (h := ?_)
    rotate_left
    ·(intro w hSw; (try dsimp only at hSw); go_simp; (try with_reducible rfl))
    (try simp only [Act.put,xL4,xL5,xL6])
    refine xT 1 (v := ?_) (hy := Or.inl ⟨by rfl,?_⟩) (h := ?_)
    rotate_left
    ·(intro w hSw; (try dsimp only at hSw); go_simp; (try with_reducible rfl))
    (try simp only [Act.put,xL4,xL5,xL6])
    refine xR [2] (h := ?_)
    refine xN (h := fun K hK => ?_)
    go_simp
    refine (number_at (D : Int) (E : Int) _ (by omega) (by omega) (by omega) (by omega) ht).mono ?_
    rintro e w70 ⟨na,rfl,hna,b70⟩
    rw [hqd] at hna
    go_wp2_with fail
    replace ht := ht.below b70
    replace hgf := hgf.below b70
    replace hS := hS.below b70
    replace VR := VR.below b70
    replace VF := VF.below b70
    replace VS := VS.below b70
    replace VL := VL.below b70
    replace VH := VH.below b70
    replace VM := VM.below b70
    replace BB := BB.trans (b70.mono BB.size)
    clear b70
    refine hK.out _ _ ?_ (fun hH1 => ?_)
    ·exact ⟨VF.1,VF.2.1,VF.2.2.1,VM.1,VM.2.1⟩
    clear hK K hHeld
    (try simp only [Act.put,xL4,xL5,xL6])
    refine xR [3] (h := ?_)
    refine xN (h := fun K hK => ?_)
    go_simp
    refine (qadd_at _ _ F qd (L + 1) _ hgf (hna.at _ (by omega)) (by omega) (by omega) ht).mono ?_
    rintro e w71 ⟨xx,rfl,hr,b71⟩
    obtain ⟨pr,ar,nr,cr,br,mr,dr,rfl⟩ := hr.open
    go_wp2_with fail
    replace ht := ht.below b71
    replace hgf := hgf.below b71
    replace hS := hS.below b71
    replace hna := hna.below b71
    replace VR := VR.below b71
    replace VF := VF.below b71
    replace VS := VS.below b71
    replace VL := VL.below b71
    replace VH := VH.below b71
    replace VM := VM.below b71
    replace BB := BB.trans (b71.mono BB.size)
    clear b71
    refine hK.out _ _ ?_ (fun hH2 => ?_)
    ·exact ⟨VF.1,VF.2.1,VF.2.2.1,VM.1,VM.2.1⟩
    clear hK K hH1
    (try simp only [Act.put,xL4,xL5,xL6])
    refine xR [4] (h := ?_)
    refine xN (h := fun K hK => ?_)
    have hKp := VR.keepJ (.bool pr) (.slice ar nr cr) (.slice br mr dr)
    have VF_n := VF.other3 (R := w.heap.size + 1) (by omega) (.bool pr) (.slice ar nr cr) (.slice br mr dr)
    have VS_n := VS.other3 (R := w.heap.size + 1) (by omega) (.bool pr) (.slice ar nr cr) (.slice br mr dr)
    have VL_n := VL.other3 (R := w.heap.size + 1) (by omega) (.bool pr) (.slice ar nr cr) (.slice br mr dr)
    have VH_n := VH.other3 (R := w.heap.size + 1) (by omega) (.bool pr) (.slice ar nr cr) (.slice br mr dr)
    have VM_n := VM.other3 (R := w.heap.size + 1) (by omega) (.bool pr) (.slice ar nr cr) (.slice br mr dr)
    have VR_n := VR.same (.bool pr) (.slice ar nr cr) (.slice br mr dr)
    have ht_n := ht.keep hKp
    have hgf_n := hgf.keep hKp
    have hS_n := hS.keep hKp
    have hna_n := hna.keep hKp
    have hr_n := hr.keep hKp
    have BB_n := below_store3 (R := w.heap.size + 1) BB (by omega) (.bool pr) (.slice ar nr cr) (.slice br mr dr)
    clear hKp
    obtain ⟨VR_0,VR_1,VR_2,VR_3,VR_4,VR_5⟩ := id VR
    go_simp
    clear VR_0 VR_1 VR_2 VR_3 VR_4 VR_5
    clear BB ht hgf hS hna hr VR VF VS VL VH VM
    generalize ((w71.setCell ⟨w.heap.size + 1,0,none⟩ (.bool pr)).setCell ⟨w.heap.size + 1,1,none⟩ (.slice ar nr cr)).setCell ⟨w.heap.size + 1,2,none⟩ (.slice br mr dr) = W110 at *
    have BB := BB_n
    have ht := ht_n
    have hgf := hgf_n
    have hS := hS_n
    have hna := hna_n
    have hr := hr_n
    have VR := VR_n
    have VF := VF_n
    have VS := VS_n
    have VL := VL_n
    have VH := VH_n
    have VM := VM_n
    clear BB_n ht_n hgf_n hS_n hna_n hr_n VR_n VF_n VS_n VL_n VH_n VM_n
    refine hK.out _ _ ?_ (fun hH3 => ?_)
    ·exact ⟨VF.1,VF.2.1,VF.2.2.1,VM.1,VM.2.1⟩
    clear hK K hH2
    (try simp only [Act.put,xL4,xL5,xL6])
    refine xT 5 (v := ?_) (hy := Or.inl ⟨by rfl,?_⟩) (h := ?_)
    rotate_left
    ·(intro w hSw; (try dsimp only at hSw); go_simp; (try with_reducible rfl))
    (try simp only [Act.put,xL4,xL5,xL6])
    refine wpAnyH_done (by kernel_rfl) ?_ _
    clear hH3
    rw [← HI.out] at hr
    clear hqa hqd hF hSS HI hsa hsd hsr hqs hfl hsf h1s h2s hab hgf hS
    obtain ⟨q1,q2,q3,q4,q5,q6⟩ := id VR
    go_wp2
    (try simp only [Exit.inBlock,Exit.then])
    refine bodyPost_ret (v := .tuple #[.agg #[.bool pr,.slice ar nr cr,.slice br mr dr],.int .i64 0]) (by simp [results,go_sem,q1,q2,q3]) rfl ?_
    exact ⟨_,rfl,hr,BB⟩
   ·have hcp : cc > 0 := by
     rcases hc with g | g
     ·exact HC.out.1.2 g
     ·exact absurd (HC.out.2.2 g.1) hz
    clear HC hz
    clear hc
    obtain ⟨i0,i1,i2,i3⟩ := id VL
    obtain ⟨j0,j1_,j2_,j3⟩ := id VH
    have hKp := VM.keepF (.int .i64 (D : Int)) (.int .i64 (E : Int))
    have VR_n := VR.other2 (R := R3 + 1 + 1) (by omega) (.int .i64 (D : Int)) (.int .i64 (E : Int))
    have VF_n := VF.other2 (R := R3 + 1 + 1) (by omega) (.int .i64 (D : Int)) (.int .i64 (E : Int))
    have VS_n := VS.other2 (R := R3 + 1 + 1) (by omega) (.int .i64 (D : Int)) (.int .i64 (E : Int))
    have VL_n := VL.other (R := R3 + 1 + 1) (by omega) (.int .i64 (D : Int)) (.int .i64 (E : Int))
    have VH_n := VH.other (R := R3 + 1 + 1) (by omega) (.int .i64 (D : Int)) (.int .i64 (E : Int))
    have VM_n := VM.same (.int .i64 (D : Int)) (.int .i64 (E : Int))
    have ht_n := ht.keepL hKp
    have hgf_n := hgf.keepL hKp
    have hS_n := hS.keepL hKp
    have BB_n := below_store2 (R := R3 + 1 + 1) BB (by omega) (.int .i64 (D : Int)) (.int .i64 (E : Int))
    clear hKp
    obtain ⟨VM_0,VM_1,VM_2,VM_3⟩ := id VM
    go_wp2
    clear VM_0 VM_1 VM_2 VM_3
    clear BB ht hgf hS VR VF VS VL VH VM
    generalize (w69.setCell ⟨R3 + 1 + 1,0,none⟩ (.int .i64 (D : Int))).setCell ⟨R3 + 1 + 1,1,none⟩ (.int .i64 (E : Int)) = W128 at *
    have BB := BB_n
    have ht := ht_n
    have hgf := hgf_n
    have hS := hS_n
    have VR := VR_n
    have VF := VF_n
    have VS := VS_n
    have VL := VL_n
    have VH := VH_n
    have VM := VM_n
    clear BB_n ht_n hgf_n hS_n VR_n VF_n VS_n VL_n VH_n VM_n
    clear i0 i1 i2 i3 j0 j1_ j2_ j3
    have hDr : Below W128.heap.size W128 W128.drew := (Below.refl _ _).drew
    replace ht := ht.below hDr
    replace hgf := hgf.below hDr
    replace hS := hS.below hDr
    replace VR := VR.below hDr
    replace VF := VF.below hDr
    replace VS := VS.below hDr
    replace VL := VL.below hDr
    replace VH := VH.below hDr
    replace VM := VM.below hDr
    replace BB := BB.trans (hDr.mono BB.size)
    clear hDr
    refine wp_region_held_drew (S := (fun w' => w'.cell? ⟨R1,0,none⟩ = some (.bool pg) ∧ w'.cell? ⟨R1,1,none⟩ = some (.slice ag ng cg) ∧ w'.cell? ⟨R1,2,none⟩ = some (.slice bg mg dg_) ∧ w'.cell? ⟨R3 + 1 + 1,0,none⟩ = some (.int .i64 (D : Int)) ∧ w'.cell? ⟨R3 + 1 + 1,1,none⟩ = some (.int .i64 (E : Int)))) (by kernel_rfl) ?_ (fun hHeld => ?_)
    ·exact ⟨VF.1,VF.2.1,VF.2.2.1,VM.1,VM.2.1⟩
    generalize W128.drew = W129 at *
    refine xT 0 (v := ?_) (hy := Or.inl ⟨by rfl,?_⟩) (h := ?_)
    rotate_left
    ·(intro w hSw; (try dsimp only at hSw); go_simp; (try with_reducible rfl))
    (try simp only [Act.put,xL4,xL5,xL6])
    refine xT 1 (v := ?_) (hy := Or.inl ⟨by rfl,?_⟩) (h := ?_)
    rotate_left
    ·(intro w hSw; (try dsimp only at hSw); go_simp; (try with_reducible rfl))
    (try simp only [Act.put,xL4,xL5,xL6])
    refine xR [2] (h := ?_)
    refine xN (h := fun K hK => ?_)
    go_simp
    refine (number_at (D : Int) (E : Int) _ (by omega) (by omega) (by omega) (by omega) ht).mono ?_
    rintro e w90 ⟨na,rfl,hna,b90⟩
    rw [hqd] at hna
    go_wp2_with fail
    replace ht := ht.below b90
    replace hgf := hgf.below b90
    replace hS := hS.below b90
    replace VR := VR.below b90
    replace VF := VF.below b90
    replace VS := VS.below b90
    replace VL := VL.below b90
    replace VH := VH.below b90
    replace VM := VM.below b90
    replace BB := BB.trans (b90.mono BB.size)
    clear b90
    refine hK.out _ _ ?_ (fun hH1 => ?_)
    ·exact ⟨VF.1,VF.2.1,VF.2.2.1,VM.1,VM.2.1⟩
    clear hK K hHeld
    (try simp only [Act.put,xL4,xL5,xL6])
    refine xR [3] (h := ?_)
    refine xN (h := fun K hK => ?_)
    go_simp
    refine (qadd_at _ _ F qd (L + 1) _ hgf (hna.at _ (by omega)) (by omega) (by omega) ht).mono ?_
    rintro e w91 ⟨xx,rfl,hr,b91⟩
    obtain ⟨pr,ar,nr,cr,br,mr,dr,rfl⟩ := hr.open
    go_wp2_with fail
    replace ht := ht.below b91
    replace hgf := hgf.below b91
    replace hS := hS.below b91
    replace hna := hna.below b91
    replace VR := VR.below b91
    replace VF := VF.below b91
    replace VS := VS.below b91
    replace VL := VL.below b91
    replace VH := VH.below b91
    replace VM := VM.below b91
    replace BB := BB.trans (b91.mono BB.size)
    clear b91
    refine hK.out _ _ ?_ (fun hH2 => ?_)
    ·exact ⟨VF.1,VF.2.1,VF.2.2.1,VM.1,VM.2.1⟩
    clear hK K hH1
    (try simp only [Act.put,xL4,xL5,xL6])
    refine xR [4] (h := ?_)
    refine xN (h := fun K hK => ?_)
    have hKp := VR.keepJ (.bool pr) (.slice ar nr cr) (.slice br mr dr)
    have VF_n := VF.other3 (R := w.heap.size + 1) (by omega) (.bool pr) (.slice ar nr cr) (.slice br mr dr)
    have VS_n := VS.other3 (R := w.heap.size + 1) (by omega) (.bool pr) (.slice ar nr cr) (.slice br mr dr)
    have VL_n := VL.other3 (R := w.heap.size + 1) (by omega) (.bool pr) (.slice ar nr cr) (.slice br mr dr)
    have VH_n := VH.other3 (R := w.heap.size + 1) (by omega) (.bool pr) (.slice ar nr cr) (.slice br mr dr)
    have VM_n := VM.other3 (R := w.heap.size + 1) (by omega) (.bool pr) (.slice ar nr cr) (.slice br mr dr)
    have VR_n := VR.same (.bool pr) (.slice ar nr cr) (.slice br mr dr)
    have ht_n := ht.keep hKp
    have hgf_n := hgf.keep hKp
    have hS_n := hS.keep hKp
    have hna_n := hna.keep hKp
    have hr_n := hr.keep hKp
    have BB_n := below_store3 (R := w.heap.size + 1) BB (by omega) (.bool pr) (.slice ar nr cr) (.slice br mr dr)
    clear hKp
    obtain ⟨VR_0,VR_1,VR_2,VR_3,VR_4,VR_5⟩ := id VR
    go_simp
    clear VR_0 VR_1 VR_2 VR_3 VR_4 VR_5
    clear BB ht hgf hS hna hr VR VF VS VL VH VM
    generalize ((w91.setCell ⟨w.heap.size + 1,0,none⟩ (.bool pr)).setCell ⟨w.heap.size + 1,1,none⟩ (.slice ar nr cr)).setCell ⟨w.heap.size + 1,2,none⟩ (.slice br mr dr) = W130 at *
    have BB := BB_n
    have ht := ht_n
    have hgf := hgf_n
    have hS := hS_n
    have hna := hna_n
    have hr := hr_n
    have VR := VR_n
    have VF := VF_n
    have VS := VS_n
    have VL := VL_n
    have VH := VH_n
    have VM := VM_n
    clear BB_n ht_n hgf_n hS_n hna_n hr_n VR_n VF_n VS_n VL_n VH_n VM_n
    refine hK.out _ _ ?_ (fun hH3 => ?_)
    ·exact ⟨VF.1,VF.2.1,VF.2.2.1,VM.1,VM.2.1⟩
    clear hK K hH2
    (try simp only [Act.put,xL4,xL5,xL6])
    refine xT 5 (v := ?_) (hy := Or.inl ⟨by rfl,?_⟩) (h := ?_)
    rotate_left
    ·(intro w hSw; (try dsimp only at hSw); go_simp; (try with_reducible rfl))
    (try simp only [Act.put,xL4,xL5,xL6])
    refine wpAnyH_done (by kernel_rfl) ?_ _
    clear hH3
    rw [← HI.out] at hr
    clear hqa hqd hF hSS HI hsa hsd hsr hqs hfl hsf h1s h2s hab hgf hS
    obtain ⟨q1,q2,q3,q4,q5,q6⟩ := id VR
    go_wp2
    (try simp only [Exit.inBlock,Exit.then])
    refine bodyPost_ret (v := .tuple #[.agg #[.bool pr,.slice ar nr cr,.slice br mr dr],.int .i64 0]) (by simp [results,go_sem,q1,q2,q3]) rfl ?_
    exact ⟨_,rfl,hr,BB⟩
  ·have HI : Hid (nearQ q A C D E = F + qa) := by show _ = _; rw [HN.out,if_neg hc]
   clear HN
   by_cases hz : cc = 0
   ·have hce : ¬ (E : Int) < (C : Int) := fun g => hc (Or.inr ⟨HC.out.2.1 hz,by omega⟩)
    subst hz
    clear HC
    clear hc
    obtain ⟨i0,i1,i2,i3⟩ := id VL
    obtain ⟨j0,j1_,j2_,j3⟩ := id VH
    obtain ⟨VM_0,VM_1,VM_2,VM_3⟩ := id VM
    go_wp2
    clear VM_0 VM_1 VM_2 VM_3
    clear i0 i1 i2 i3 j0 j1_ j2_ j3
    have hDr : Below w69.heap.size w69 w69.drew := (Below.refl _ _).drew
    replace ht := ht.below hDr
    replace hgf := hgf.below hDr
    replace hS := hS.below hDr
    replace VR := VR.below hDr
    replace VF := VF.below hDr
    replace VS := VS.below hDr
    replace VL := VL.below hDr
    replace VH := VH.below hDr
    replace VM := VM.below hDr
    replace BB := BB.trans (hDr.mono BB.size)
    clear hDr
    refine wp_region_held_drew (S := (fun w' => w'.cell? ⟨R1,0,none⟩ = some (.bool pg) ∧ w'.cell? ⟨R1,1,none⟩ = some (.slice ag ng cg) ∧ w'.cell? ⟨R1,2,none⟩ = some (.slice bg mg dg_) ∧ w'.cell? ⟨R3 + 1 + 1,0,none⟩ = some (.int .i64 (A : Int)) ∧ w'.cell? ⟨R3 + 1 + 1,1,none⟩ = some (.int .i64 (C : Int)))) (by kernel_rfl) ?_ (fun hHeld => ?_)
    ·exact ⟨VF.1,VF.2.1,VF.2.2.1,VM.1,VM.2.1⟩
    generalize w69.drew = W108 at *
    refine xT 0 (v := ?_) (hy := Or.inl ⟨by rfl,?_⟩) (h := ?_)
    rotate_left
    ·(intro w hSw; (try dsimp only at hSw); go_simp; (try with_reducible rfl))
    (try simp only [Act.put,xL4,xL5,xL6])
    refine xT 1 (v := ?_) (hy := Or.inl ⟨by rfl,?_⟩) (h := ?_)
    rotate_left
    ·(intro w hSw; (try dsimp only at hSw); go_simp; (try with_reducible rfl))
    (try simp only [Act.put,xL4,xL5,xL6])
    refine xR [2] (h := ?_)
    refine xN (h := fun K hK => ?_)
    go_simp
    refine (number_at (A : Int) (C : Int) _ (by omega) (by omega) (by omega) (by omega) ht).mono ?_
    rintro e w70 ⟨na,rfl,hna,b70⟩
    rw [hqa] at hna
    go_wp2_with fail
    replace ht := ht.below b70
    replace hgf := hgf.below b70
    replace hS := hS.below b70
    replace VR := VR.below b70
    replace VF := VF.below b70
    replace VS := VS.below b70
    replace VL := VL.below b70
    replace VH := VH.below b70
    replace VM := VM.below b70
    replace BB := BB.trans (b70.mono BB.size)
    clear b70
    refine hK.out _ _ ?_ (fun hH1 => ?_)
    ·exact ⟨VF.1,VF.2.1,VF.2.2.1,VM.1,VM.2.1⟩
    clear hK K hHeld
    (try simp only [Act.put,xL4,xL5,xL6])
    refine xR [3] (h := ?_)
    refine xN (h := fun K hK => ?_)
    go_simp
    refine (qadd_at _ _ F qa (L + 1) _ hgf (hna.at _ (by omega)) (by omega) (by omega) ht).mono ?_
    rintro e w71 ⟨xx,rfl,hr,b71⟩
    obtain ⟨pr,ar,nr,cr,br,mr,dr,rfl⟩ := hr.open
    go_wp2_with fail
    replace ht := ht.below b71
    replace hgf := hgf.below b71
    replace hS := hS.below b71
    replace hna := hna.below b71
    replace VR := VR.below b71
    replace VF := VF.below b71
    replace VS := VS.below b71
    replace VL := VL.below b71
    replace VH := VH.below b71
    replace VM := VM.below b71
    replace BB := BB.trans (b71.mono BB.size)
    clear b71
    refine hK.out _ _ ?_ (fun hH2 => ?_)
    ·exact ⟨VF.1,VF.2.1,VF.2.2.1,VM.1,VM.2.1⟩
    clear hK K hH1
    (try simp only [Act.put,xL4,xL5,xL6])
    refine xR [4] (h := ?_)
    refine xN (h := fun K hK => ?_)
    have hKp := VR.keepJ (.bool pr) (.slice ar nr cr) (.slice br mr dr)
    have VF_n := VF.other3 (R := w.heap.size + 1) (by omega) (.bool pr) (.slice ar nr cr) (.slice br mr dr)
    have VS_n := VS.other3 (R := w.heap.size + 1) (by omega) (.bool pr) (.slice ar nr cr) (.slice br mr dr)
    have VL_n := VL.other3 (R := w.heap.size + 1) (by omega) (.bool pr) (.slice ar nr cr) (.slice br mr dr)
    have VH_n := VH.other3 (R := w.heap.size + 1) (by omega) (.bool pr) (.slice ar nr cr) (.slice br mr dr)
    have VM_n := VM.other3 (R := w.heap.size + 1) (by omega) (.bool pr) (.slice ar nr cr) (.slice br mr dr)
    have VR_n := VR.same (.bool pr) (.slice ar nr cr) (.slice br mr dr)
    have ht_n := ht.keep hKp
    have hgf_n := hgf.keep hKp
    have hS_n := hS.keep hKp
    have hna_n := hna.keep hKp
    have hr_n := hr.keep hKp
    have BB_n := below_store3 (R := w.heap.size + 1) BB (by omega) (.bool pr) (.slice ar nr cr) (.slice br mr dr)
    clear hKp
    obtain ⟨VR_0,VR_1,VR_2,VR_3,VR_4,VR_5⟩ := id VR
    go_simp
    clear VR_0 VR_1 VR_2 VR_3 VR_4 VR_5
    clear BB ht hgf hS hna hr VR VF VS VL VH VM
    generalize ((w71.setCell ⟨w.heap.size + 1,0,none⟩ (.bool pr)).setCell ⟨w.heap.size + 1,1,none⟩ (.slice ar nr cr)).setCell ⟨w.heap.size + 1,2,none⟩ (.slice br mr dr) = W109 at *
    have BB := BB_n
    have ht := ht_n
    have hgf := hgf_n
    have hS := hS_n
    have hna := hna_n
    have hr := hr_n
    have VR := VR_n
    have VF := VF_n
    have VS := VS_n
    have VL := VL_n
    have VH := VH_n
    have VM := VM_n
    clear BB_n ht_n hgf_n hS_n hna_n hr_n VR_n VF_n VS_n VL_n VH_n VM_n
    refine hK.out _ _ ?_ (fun hH3 => ?_)
    ·exact ⟨VF.1,VF.2.1,VF.2.2.1,VM.1,VM.2.1⟩
    clear hK K hH2
    (try simp only [Act.put,xL4,xL5,xL6])
    refine xT 5 (v := ?_) (hy := Or.inl ⟨by rfl,?_⟩) (h := ?_)
    rotate_left
    ·(intro w hSw; (try dsimp only at hSw); go_simp; (try with_reducible rfl))
    (try simp only [Act.put,xL4,xL5,xL6])
    refine wpAnyH_done (by kernel_rfl) ?_ _
    clear hH3
    rw [← HI.out] at hr
    clear hqa hqd hF hSS HI hsa hsd hsr hqs hfl hsf h1s h2s hab hgf hS
    obtain ⟨q1,q2,q3,q4,q5,q6⟩ := id VR
    go_wp2
    (try simp only [Exit.inBlock,Exit.then])
    refine bodyPost_ret (v := .tuple #[.agg #[.bool pr,.slice ar nr cr,.slice br mr dr],.int .i64 0]) (by simp [results,go_sem,q1,q2,q3]) rfl ?_
    exact ⟨_,rfl,hr,BB⟩
   ·have hcp : ¬ cc > 0 := fun g => hc (Or.inl (HC.out.1.1 g))
    have hcz : (cc == 0) = false := by simp; exact hz
    clear HC hz
    clear hc
    obtain ⟨i0,i1,i2,i3⟩ := id VL
    obtain ⟨j0,j1_,j2_,j3⟩ := id VH
    obtain ⟨VM_0,VM_1,VM_2,VM_3⟩ := id VM
    go_wp2
    clear VM_0 VM_1 VM_2 VM_3
    clear i0 i1 i2 i3 j0 j1_ j2_ j3
    have hDr : Below w69.heap.size w69 w69.drew := (Below.refl _ _).drew
    replace ht := ht.below hDr
    replace hgf := hgf.below hDr
    replace hS := hS.below hDr
    replace VR := VR.below hDr
    replace VF := VF.below hDr
    replace VS := VS.below hDr
    replace VL := VL.below hDr
    replace VH := VH.below hDr
    replace VM := VM.below hDr
    replace BB := BB.trans (hDr.mono BB.size)
    clear hDr
    refine wp_region_held_drew (S := (fun w' => w'.cell? ⟨R1,0,none⟩ = some (.bool pg) ∧ w'.cell? ⟨R1,1,none⟩ = some (.slice ag ng cg) ∧ w'.cell? ⟨R1,2,none⟩ = some (.slice bg mg dg_) ∧ w'.cell? ⟨R3 + 1 + 1,0,none⟩ = some (.int .i64 (A : Int)) ∧ w'.cell? ⟨R3 + 1 + 1,1,none⟩ = some (.int .i64 (C : Int)))) (by kernel_rfl) ?_ (fun hHeld => ?_)
    ·exact ⟨VF.1,VF.2.1,VF.2.2.1,VM.1,VM.2.1⟩
    generalize w69.drew = W128 at *
    refine xT 0 (v := ?_) (hy := Or.inl ⟨by rfl,?_⟩) (h := ?_)
    rotate_left
    ·(intro w hSw; (try dsimp only at hSw); go_simp; (try with_reducible rfl))
    (try simp only [Act.put,xL4,xL5,xL6])
    refine xT 1 (v := ?_) (hy := Or.inl ⟨by rfl,?_⟩) (h := ?_)
    rotate_left
    ·(intro w hSw; (try dsimp only at hSw); go_simp; (try with_reducible rfl))
    (try simp only [Act.put,xL4,xL5,xL6])
    refine xR [2] (h := ?_)
    refine xN (h := fun K hK => ?_)
    go_simp
    refine (number_at (A : Int) (C : Int) _ (by omega) (by omega) (by omega) (by omega) ht).mono ?_
    rintro e w90 ⟨na,rfl,hna,b90⟩
    rw [hqa] at hna
    go_wp2_with fail
    replace ht := ht.below b90
    replace hgf := hgf.below b90
    replace hS := hS.below b90
    replace VR := VR.below b90
    replace VF := VF.below b90
    replace VS := VS.below b90
    replace VL := VL.below b90
    replace VH := VH.below b90
    replace VM := VM.below b90
    replace BB := BB.trans (b90.mono BB.size)
    clear b90
    refine hK.out _ _ ?_ (fun hH1 => ?_)
    ·exact ⟨VF.1,VF.2.1,VF.2.2.1,VM.1,VM.2.1⟩
    clear hK K hHeld
    (try simp only [Act.put,xL4,xL5,xL6])
    refine xR [3] (h := ?_)
    refine xN (h := fun K hK => ?_)
    go_simp
    refine (qadd_at _ _ F qa (L + 1) _ hgf (hna.at _ (by omega)) (by omega) (by omega) ht).mono ?_
    rintro e w91 ⟨xx,rfl,hr,b91⟩
    obtain ⟨pr,ar,nr,cr,br,mr,dr,rfl⟩ := hr.open
    go_wp2_with fail
    replace ht := ht.below b91
    replace hgf := hgf.below b91
    replace hS := hS.below b91
    replace hna := hna.below b91
    replace VR := VR.below b91
    replace VF := VF.below b91
    replace VS := VS.below b91
    replace VL := VL.below b91
    replace VH := VH.below b91
    replace VM := VM.below b91
    replace BB := BB.trans (b91.mono BB.size)
    clear b91
    refine hK.out _ _ ?_ (fun hH2 => ?_)
    ·exact ⟨VF.1,VF.2.1,VF.2.2.1,VM.1,VM.2.1⟩
    clear hK K hH1
    (try simp only [Act.put,xL4,xL5,xL6])
    refine xR [4] (h := ?_)
    refine xN (h := fun K hK => ?_)
    have hKp := VR.keepJ (.bool pr) (.slice ar nr cr) (.slice br mr dr)
    have VF_n := VF.other3 (R := w.heap.size + 1) (by omega) (.bool pr) (.slice ar nr cr) (.slice br mr dr)
    have VS_n := VS.other3 (R := w.heap.size + 1) (by omega) (.bool pr) (.slice ar nr cr) (.slice br mr dr)
    have VL_n := VL.other3 (R := w.heap.size + 1) (by omega) (.bool pr) (.slice ar nr cr) (.slice br mr dr)
    have VH_n := VH.other3 (R := w.heap.size + 1) (by omega) (.bool pr) (.slice ar nr cr) (.slice br mr dr)
    have VM_n := VM.other3 (R := w.heap.size + 1) (by omega) (.bool pr) (.slice ar nr cr) (.slice br mr dr)
    have VR_n := VR.same (.bool pr) (.slice ar nr cr) (.slice br mr dr)
    have ht_n := ht.keep hKp
    have hgf_n := hgf.keep hKp
    have hS_n := hS.keep hKp
    have hna_n := hna.keep hKp
    have hr_n := hr.keep hKp
    have BB_n := below_store3 (R := w.heap.size + 1) BB (by omega) (.bool pr) (.slice ar nr cr) (.slice br mr dr)
    clear hKp
    obtain ⟨VR_0,VR_1,VR_2,VR_3,VR_4,VR_5⟩ := id VR
    go_simp
    clear VR_0 VR_1 VR_2 VR_3 VR_4 VR_5
    clear BB ht hgf hS hna hr VR VF VS VL VH VM
    generalize ((w91.setCell ⟨w.heap.size + 1,0,none⟩ (.bool pr)).setCell ⟨w.heap.size + 1,1,none⟩ (.slice ar nr cr)).setCell ⟨w.heap.size + 1,2,none⟩ (.slice br mr dr) = W129 at *
    have BB := BB_n
    have ht := ht_n
    have hgf := hgf_n
    have hS := hS_n
    have hna := hna_n
    have hr := hr_n
    have VR := VR_n
    have VF := VF_n
    have VS := VS_n
    have VL := VL_n
    have VH := VH_n
    have VM := VM_n
    clear BB_n ht_n hgf_n hS_n hna_n hr_n VR_n VF_n VS_n VL_n VH_n VM_n
    refine hK.out _ _ ?_ (fun hH3 => ?_)
    ·exact ⟨VF.1,VF.2.1,VF.2.2.1,VM.1,VM.2.1⟩
    clear hK K hH2
    (try simp only [Act.put,xL4,xL5,xL6])
    refine xT 5 (v := ?_) (hy := Or.inl ⟨by rfl,?_⟩) (h := ?_)
    rotate_left
    ·(intro w hSw; (try dsimp only at hSw); go_simp; (try with_reducible rfl))
    (try simp only [Act.put,xL4,xL5,xL6])
    refine wpAnyH_done (by kernel_rfl) ?_ _
    clear hH3
    rw [← HI.out] at hr
    clear hqa hqd hF hSS HI hsa hsd hsr hqs hfl hsf h1s h2s hab hgf hS
    obtain ⟨q1,q2,q3,q4,q5,q6⟩ := id VR
    go_wp2
    (try simp only [Exit.inBlock,Exit.then])
    refine bodyPost_ret (v := .tuple #[.agg #[.bool pr,.slice ar nr cr,.slice br mr dr],.int .i64 0]) (by simp [results,go_sem,q1,q2,q3]) rfl ?_
    exact ⟨_,rfl,hr,BB⟩
theorem near_low (v : Value) (q : Rat) (L most : Nat) (w : World) (hv : RatAt w v q L) (ht : Tab w) (hL : 2 ≤ L) (hM : L ≤ 30000) (hm0 : 1 ≤ most) (hm : most ≤ 4096) (A C D E : Nat) (hA : A ≤ 4096) (hC : C ≤ 4096) (hD : D ≤ 4096) (hE : E ≤ 4096) (hab : aboutN (q - (q.floor : Rat)) most (most + 1) 0 1 1 1 = (A,C,D,E)) (hlt : q - (q.floor : Rat) - ((A : Int) : Rat) / ((C : Int) : Rat) < ((D : Int) : Rat) / ((E : Int) : Rat) - (q - (q.floor : Rat))) :
  Calls Tryz.prog 8 #[v,.int .i64 (most : Int)] w fun e w' => ∃ r,e = .returned (.tuple #[r,.int .i64 0]) ∧ RepQ w' r ((q.floor : Rat) + ((A : Int) : Rat) / ((C : Int) : Rat)) ∧ Below w.heap.size w w' := by
 refine (near_any v q L most w hv ht hL hM hm0 hm A C D E hA hC hD hE hab).mono ?_
 rintro e w1 ⟨r,rfl,h1,h2⟩
 unfold nearQ at h1
 rw [if_neg] at h1
 ·exact ⟨r,rfl,h1,h2⟩
 ·rintro (g | g)
  ·exact absurd (Rat.le_of_lt g) (Rat.not_le.2 hlt)
  ·rw [g.1] at hlt; exact Rat.lt_irrefl hlt
end Go.Proofs.YtpgioggbepdjpaaGreatDoor
