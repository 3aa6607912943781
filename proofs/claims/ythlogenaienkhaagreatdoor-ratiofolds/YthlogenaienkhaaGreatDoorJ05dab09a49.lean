/-
  Texts of mine, joined: what lies beneath the statement.
-/
import Derived.Test.YthlogenaienkhaaGreatDoorJ1233da0a2f
import Derived.Test.YthlogenaienkhaaGreatDoorJ05dc961424
/-
 The document's Floor; the nearest whole number lies at most a half away,and is even where it is a half.
-/
namespace Go.Proofs.YthlogenaienkhaaGreatDoor
open Go.RowKit
set_option linter.unusedVariables false
set_option linter.unusedSimpArgs false

set_option maxRecDepth 20000 in
set_option maxHeartbeats 4000000 in
theorem jfloor_at (u : Value) (q : Rat) (L : Nat) (w : World) (hu : DocQ w u q L) (hL : L ≤ 900) :
  Calls Tryz.prog 30 #[u] w fun e w' => ∃ x,e = .returned x ∧ RepJ w' x q.floor ∧ Below w.heap.size w w' := by
 obtain ⟨z,x,hP,rfl⟩ := hu
 obtain ⟨p,ao,n,c,bo,m,d,rfl⟩ := hP.open
 obtain ⟨hz,hx,hx0,l1,l2⟩ := hP.parts
 rw [floor_mkRat z x hx0]
 have l3 : nl W32 z.natAbs ≤ 1000 := by omega
 have l4 : nl W32 ((x : Int)).natAbs ≤ 1000 := natc_nl (by omega)
 clear hP
 have BB : Below w.heap.size w w := Below.refl _ _
 obtain ⟨Wb0,hW0,hS0,hL0,VA⟩ := V3.lay w 28 (.bool p) (.slice ao n c) (.slice bo m d)
 replace hz := hz.below hL0
 replace hx := hx.below hL0
 replace BB := BB.trans (hL0.mono BB.size)
 clear hL0
 obtain ⟨Wb1,hW1,hS1,hL1,VR⟩ := V2.lay Wb0 26 (.bool false) (.slice none 0 0)
 rw [hS0] at VR hS1
 replace hz := hz.below hL1
 replace hx := hx.below hL1
 replace VA := VA.below hL1
 replace BB := BB.trans (hL1.mono BB.size)
 clear hL1
 go_enter Tryz.func30,Tryz.ntmps30
 go_wp2
 rw [← hW0]
 rw [← hW1]
 clear hW0 hW1 hS0 hS1
 have hDr : Below Wb1.heap.size Wb1 Wb1.drew := (Below.refl _ _).drew
 replace hz := hz.below hDr
 replace hx := hx.below hDr
 replace VA := VA.below hDr
 replace VR := VR.below hDr
 replace BB := BB.trans (hDr.mono BB.size)
 clear hDr
 refine wp_region_held_drew (S := (fun w' => w'.cell? ⟨w.heap.size,0,none⟩ = some (.bool p) ∧ w'.cell? ⟨w.heap.size,1,none⟩ = some (.slice ao n c) ∧ w'.cell? ⟨w.heap.size,2,none⟩ = some (.slice bo m d))) (by kernel_rfl) ?_ (fun hHeld => ?_)
 ·exact ⟨VA.1,VA.2.1,VA.2.2.1⟩
 generalize Wb1.drew = W1 at *
 refine xT 0 (v := ?_) (hy := Or.inl ⟨by rfl,?_⟩) (h := ?_)
 rotate_left
 ·(intro w hSw; (try dsimp only at hSw); go_simp; (try with_reducible rfl))
 (try simp only [Act.put,xL4,xL5,xL6])
 refine xT 1 (v := ?_) (hy := Or.inl ⟨by rfl,?_⟩) (h := ?_)
 rotate_left
 ·(intro w hSw; (try dsimp only at hSw); go_simp; (try with_reducible rfl))
 (try simp only [Act.put,xL4,xL5,xL6])
 refine xT 2 (v := ?_) (hy := Or.inl ⟨by rfl,?_⟩) (h := ?_)
 rotate_left
 ·(intro w hSw; (try dsimp only at hSw); go_simp; (try with_reducible rfl))
 (try simp only [Act.put,xL4,xL5,xL6])
 refine xR [3,8,9] (h := ?_)
 refine xC (h := fun K hK => ?_) (hs := ?_)
 ·
  go_simp
  refine (den_at p ao n c bo m d x _ hx).mono ?_
  rintro e w1 ⟨e1,rfl,h1,b1⟩
  go_wp2_with fail
  replace hz := hz.below b1
  replace hx := hx.below b1
  replace VA := VA.below b1
  replace VR := VR.below b1
  replace BB := BB.trans (b1.mono BB.size)
  clear b1
  refine hK.out _ _ ?_ (fun hH1 => ?_)
  ·exact ⟨VA.1,VA.2.1,VA.2.2.1⟩
  clear hK K hHeld
  (try simp only [Act.put,xL4,xL5,xL6])
  refine xR [4,8,9] (h := ?_)
  refine xC (h := fun K hK => ?_) (hs := ?_)
  ·
   go_simp
   refine (rover_any _ _ z (x : Int) _ hz h1 (by omega) l3 l4).mono ?_
   rintro e w2 ⟨e2,e3,rfl,hq,hr,b2⟩
   obtain ⟨pq,aq,nq,cq,rfl⟩ := hq.open
   obtain ⟨pr,ar,nr,cr,rfl⟩ := hr.open
   go_wp2_with fail
   replace hz := hz.below b2
   replace hx := hx.below b2
   replace h1 := h1.below b2
   replace VA := VA.below b2
   replace VR := VR.below b2
   replace BB := BB.trans (b2.mono BB.size)
   clear b2
   refine hK.out _ _ ?_ (fun hH2 => ?_)
   ·exact ⟨VA.1,VA.2.1,VA.2.2.1⟩
   clear hK K hH1
   (try simp only [Act.put,xL4,xL5,xL6])
   refine xT 5 (v := ?_) (hy := Or.inl ⟨by rfl,?_⟩) (h := ?_)
   rotate_left
   ·(intro w hSw; (try dsimp only at hSw); go_simp; (try with_reducible rfl))
   (try simp only [Act.put,xL4,xL5,xL6])
   refine xT 6 (v := ?_) (hy := Or.inl ⟨by rfl,?_⟩) (h := ?_)
   rotate_left
   ·(intro w hSw; (try dsimp only at hSw); go_simp; (try with_reducible rfl))
   (try simp only [Act.put,xL4,xL5,xL6])
   refine xT 7 (v := ?_) (hy := Or.inl ⟨by rfl,?_⟩) (h := ?_)
   rotate_left
   ·(intro w hSw; (try dsimp only at hSw); go_simp; (try with_reducible rfl))
   (try simp only [Act.put,xL4,xL5,xL6])
   refine xR [8,9] (h := ?_)
   refine xC (h := fun K hK => ?_) (hs := ?_)
   ·
    go_simp
    have hZ2 : w.heap.size ≤ w2.heap.size := BB.size
    have hN2VA : w.heap.size ≠ w2.heap.size := Nat.ne_of_lt VA.lt
    have hN2VR : w.heap.size + 1 ≠ w2.heap.size := Nat.ne_of_lt VR.lt
    obtain ⟨W2,hW2,hS2,hL2,VQ⟩ := V2.lay w2 26 (.bool false) (.slice none 0 0)
    replace hz := hz.below hL2
    replace hx := hx.below hL2
    replace h1 := h1.below hL2
    replace hq := hq.below hL2
    replace hr := hr.below hL2
    replace VA := VA.below hL2
    replace VR := VR.below hL2
    replace BB := BB.trans (hL2.mono BB.size)
    clear hL2
    rw [← hW2]
    generalize w2.heap.size = R2 at *
    clear hW2 hS2
    refine hK.out _ _ ?_ (fun hH3 => ?_)
    ·exact ⟨VA.1,VA.2.1,VA.2.2.1⟩
    clear hK K hH2
    (try simp only [Act.put,xL4,xL5,xL6])
    refine xR [9] (h := ?_)
    refine xN (h := fun K hK => ?_)
    go_simp
    have hZ3 : w.heap.size ≤ W2.heap.size := BB.size
    have hN3VA : w.heap.size ≠ W2.heap.size := Nat.ne_of_lt VA.lt
    have hN3VR : w.heap.size + 1 ≠ W2.heap.size := Nat.ne_of_lt VR.lt
    have hN3VQ : R2 ≠ W2.heap.size := Nat.ne_of_lt VQ.lt
    obtain ⟨W3,hW3,hS3,hL3,VM⟩ := V2.lay W2 26 (.bool false) (.slice none 0 0)
    replace hz := hz.below hL3
    replace hx := hx.below hL3
    replace h1 := h1.below hL3
    replace hq := hq.below hL3
    replace hr := hr.below hL3
    replace VA := VA.below hL3
    replace VR := VR.below hL3
    replace VQ := VQ.below hL3
    replace BB := BB.trans (hL3.mono BB.size)
    clear hL3
    rw [← hW3]
    generalize W2.heap.size = R3 at *
    clear hW3 hS3
    refine hK.out _ _ ?_ (fun hH4 => ?_)
    ·exact ⟨VA.1,VA.2.1,VA.2.2.1⟩
    clear hK K hH3
    (try simp only [Act.put,xL4,xL5,xL6])
    refine xR [10] (h := ?_)
    refine xN (h := fun K hK => ?_)
    have hKp := VQ.keepJ (.bool pq) (.slice aq nq cq)
    have VA_n := VA.other2 (R := R2) (by omega) (.bool pq) (.slice aq nq cq)
    have VR_n := VR.other (R := R2) (by omega) (.bool pq) (.slice aq nq cq)
    have VM_n := VM.other (R := R2) (by omega) (.bool pq) (.slice aq nq cq)
    have VQ_n := VQ.same (.bool pq) (.slice aq nq cq)
    have hz_n := hz.keep hKp
    have hx_n := hx.keep hKp
    have h1_n := h1.keep hKp
    have hq_n := hq.keep hKp
    have hr_n := hr.keep hKp
    have BB_n := below_store2 (R := R2) BB (by omega) (.bool pq) (.slice aq nq cq)
    clear hKp
    obtain ⟨VQ_0,VQ_1,VQ_2,VQ_3⟩ := id VQ
    go_simp
    clear VQ_0 VQ_1 VQ_2 VQ_3
    clear BB hz hx h1 hq hr VA VR VQ VM
    generalize (W3.setCell ⟨R2,0,none⟩ (.bool pq)).setCell ⟨R2,1,none⟩ (.slice aq nq cq) = W4 at *
    have BB := BB_n
    have hz := hz_n
    have hx := hx_n
    have h1 := h1_n
    have hq := hq_n
    have hr := hr_n
    have VA := VA_n
    have VR := VR_n
    have VQ := VQ_n
    have VM := VM_n
    clear BB_n hz_n hx_n h1_n hq_n hr_n VA_n VR_n VQ_n VM_n
    refine hK.out _ _ ?_ (fun hH5 => ?_)
    ·exact ⟨VA.1,VA.2.1,VA.2.2.1⟩
    clear hK K hH4
    (try simp only [Act.put,xL4,xL5,xL6])
    refine xR [11] (h := ?_)
    refine xN (h := fun K hK => ?_)
    have hKp := VM.keepJ (.bool pr) (.slice ar nr cr)
    have VA_n := VA.other2 (R := R3) (by omega) (.bool pr) (.slice ar nr cr)
    have VR_n := VR.other (R := R3) (by omega) (.bool pr) (.slice ar nr cr)
    have VQ_n := VQ.other (R := R3) (by omega) (.bool pr) (.slice ar nr cr)
    have VM_n := VM.same (.bool pr) (.slice ar nr cr)
    have hz_n := hz.keep hKp
    have hx_n := hx.keep hKp
    have h1_n := h1.keep hKp
    have hq_n := hq.keep hKp
    have hr_n := hr.keep hKp
    have BB_n := below_store2 (R := R3) BB (by omega) (.bool pr) (.slice ar nr cr)
    clear hKp
    obtain ⟨VM_0,VM_1,VM_2,VM_3⟩ := id VM
    go_simp
    clear VM_0 VM_1 VM_2 VM_3
    clear BB hz hx h1 hq hr VA VR VQ VM
    generalize (W4.setCell ⟨R3,0,none⟩ (.bool pr)).setCell ⟨R3,1,none⟩ (.slice ar nr cr) = W5 at *
    have BB := BB_n
    have hz := hz_n
    have hx := hx_n
    have h1 := h1_n
    have hq := hq_n
    have hr := hr_n
    have VA := VA_n
    have VR := VR_n
    have VQ := VQ_n
    have VM := VM_n
    clear BB_n hz_n hx_n h1_n hq_n hr_n VA_n VR_n VQ_n VM_n
    refine hK.out _ _ ?_ (fun hH6 => ?_)
    ·exact ⟨VA.1,VA.2.1,VA.2.2.1⟩
    clear hK K hH5
    (try simp only [Act.put,xL4,xL5,xL6])
    refine wpAnyH_done (by kernel_rfl) ?_ _
    clear hH6
    have hKp := VR.keepJ (.bool pq) (.slice aq nq cq)
    have hz_n := hz.keep hKp
    have hx_n := hx.keep hKp
    have h1_n := h1.keep hKp
    have hq_n := hq.keep hKp
    have hr_n := hr.keep hKp
    have BB_n := below_store2 (R := w.heap.size + 1) BB (by omega) (.bool pq) (.slice aq nq cq)
    clear hKp
    obtain ⟨VQ_0,VQ_1,VQ_2,VQ_3⟩ := id VQ
    obtain ⟨q1,q2,q3,q4⟩ := id VR
    go_wp2
    (try simp only [Exit.inBlock,Exit.then])
    refine bodyPost_ret (v := .agg #[.bool pq,.slice aq nq cq]) (by simp [results,go_sem,q1,q2]) rfl ?_
    exact ⟨_,rfl,hq_n,BB_n⟩
   refine xC (h := fun K hK => ?_) (hs := ?_)
   ·
    go_simp
    have hZ6 : w.heap.size ≤ w2.heap.size := BB.size
    have hN6VA : w.heap.size ≠ w2.heap.size := Nat.ne_of_lt VA.lt
    have hN6VR : w.heap.size + 1 ≠ w2.heap.size := Nat.ne_of_lt VR.lt
    obtain ⟨W6,hW6,hS6,hL6,VM⟩ := V2.lay w2 26 (.bool false) (.slice none 0 0)
    replace hz := hz.below hL6
    replace hx := hx.below hL6
    replace h1 := h1.below hL6
    replace hq := hq.below hL6
    replace hr := hr.below hL6
    replace VA := VA.below hL6
    replace VR := VR.below hL6
    replace BB := BB.trans (hL6.mono BB.size)
    clear hL6
    rw [← hW6]
    generalize w2.heap.size = R6 at *
    clear hW6 hS6
    refine hK.out _ _ ?_ (fun hH3 => ?_)
    ·exact ⟨VA.1,VA.2.1,VA.2.2.1⟩
    clear hK K hH2
    (try simp only [Act.put,xL4,xL5,xL6])
    refine xR [8] (h := ?_)
    refine xN (h := fun K hK => ?_)
    go_simp
    have hZ7 : w.heap.size ≤ W6.heap.size := BB.size
    have hN7VA : w.heap.size ≠ W6.heap.size := Nat.ne_of_lt VA.lt
    have hN7VR : w.heap.size + 1 ≠ W6.heap.size := Nat.ne_of_lt VR.lt
    have hN7VM : R6 ≠ W6.heap.size := Nat.ne_of_lt VM.lt
    obtain ⟨W7,hW7,hS7,hL7,VQ⟩ := V2.lay W6 26 (.bool false) (.slice none 0 0)
    replace hz := hz.below hL7
    replace hx := hx.below hL7
    replace h1 := h1.below hL7
    replace hq := hq.below hL7
    replace hr := hr.below hL7
    replace VA := VA.below hL7
    replace VR := VR.below hL7
    replace VM := VM.below hL7
    replace BB := BB.trans (hL7.mono BB.size)
    clear hL7
    rw [← hW7]
    generalize W6.heap.size = R7 at *
    clear hW7 hS7
    refine hK.out _ _ ?_ (fun hH4 => ?_)
    ·exact ⟨VA.1,VA.2.1,VA.2.2.1⟩
    clear hK K hH3
    (try simp only [Act.put,xL4,xL5,xL6])
    refine xR [10] (h := ?_)
    refine xN (h := fun K hK => ?_)
    have hKp := VQ.keepJ (.bool pq) (.slice aq nq cq)
    have VA_n := VA.other2 (R := R7) (by omega) (.bool pq) (.slice aq nq cq)
    have VR_n := VR.other (R := R7) (by omega) (.bool pq) (.slice aq nq cq)
    have VM_n := VM.other (R := R7) (by omega) (.bool pq) (.slice aq nq cq)
    have VQ_n := VQ.same (.bool pq) (.slice aq nq cq)
    have hz_n := hz.keep hKp
    have hx_n := hx.keep hKp
    have h1_n := h1.keep hKp
    have hq_n := hq.keep hKp
    have hr_n := hr.keep hKp
    have BB_n := below_store2 (R := R7) BB (by omega) (.bool pq) (.slice aq nq cq)
    clear hKp
    obtain ⟨VQ_0,VQ_1,VQ_2,VQ_3⟩ := id VQ
    go_simp
    clear VQ_0 VQ_1 VQ_2 VQ_3
    clear BB hz hx h1 hq hr VA VR VM VQ
    generalize (W7.setCell ⟨R7,0,none⟩ (.bool pq)).setCell ⟨R7,1,none⟩ (.slice aq nq cq) = W8 at *
    have BB := BB_n
    have hz := hz_n
    have hx := hx_n
    have h1 := h1_n
    have hq := hq_n
    have hr := hr_n
    have VA := VA_n
    have VR := VR_n
    have VM := VM_n
    have VQ := VQ_n
    clear BB_n hz_n hx_n h1_n hq_n hr_n VA_n VR_n VM_n VQ_n
    refine hK.out _ _ ?_ (fun hH5 => ?_)
    ·exact ⟨VA.1,VA.2.1,VA.2.2.1⟩
    clear hK K hH4
    (try simp only [Act.put,xL4,xL5,xL6])
    refine xR [11] (h := ?_)
    refine xN (h := fun K hK => ?_)
    have hKp := VM.keepJ (.bool pr) (.slice ar nr cr)
    have VA_n := VA.other2 (R := R6) (by omega) (.bool pr) (.slice ar nr cr)
    have VR_n := VR.other (R := R6) (by omega) (.bool pr) (.slice ar nr cr)
    have VQ_n := VQ.other (R := R6) (by omega) (.bool pr) (.slice ar nr cr)
    have VM_n := VM.same (.bool pr) (.slice ar nr cr)
    have hz_n := hz.keep hKp
    have hx_n := hx.keep hKp
    have h1_n := h1.keep hKp
    have hq_n := hq.keep hKp
    have hr_n := hr.keep hKp
    have BB_n := below_store2 (R := R6) BB (by omega) (.bool pr) (.slice ar nr cr)
    clear hKp
    obtain ⟨VM_0,VM_1,VM_2,VM_3⟩ := id VM
    go_simp
    clear VM_0 VM_1 VM_2 VM_3
    clear BB hz hx h1 hq hr VA VR VM VQ
    generalize (W8.setCell ⟨R6,0,none⟩ (.bool pr)).setCell ⟨R6,1,none⟩ (.slice ar nr cr) = W9 at *
    have BB := BB_n
    have hz := hz_n
    have hx := hx_n
    have h1 := h1_n
    have hq := hq_n
    have hr := hr_n
    have VA := VA_n
    have VR := VR_n
    have VM := VM_n
    have VQ := VQ_n
    clear BB_n hz_n hx_n h1_n hq_n hr_n VA_n VR_n VM_n VQ_n
    refine hK.out _ _ ?_ (fun hH6 => ?_)
    ·exact ⟨VA.1,VA.2.1,VA.2.2.1⟩
    clear hK K hH5
    (try simp only [Act.put,xL4,xL5,xL6])
    refine wpAnyH_done (by kernel_rfl) ?_ _
    clear hH6
    have hKp := VR.keepJ (.bool pq) (.slice aq nq cq)
    have hz_n := hz.keep hKp
    have hx_n := hx.keep hKp
    have h1_n := h1.keep hKp
    have hq_n := hq.keep hKp
    have hr_n := hr.keep hKp
    have BB_n := below_store2 (R := w.heap.size + 1) BB (by omega) (.bool pq) (.slice aq nq cq)
    clear hKp
    obtain ⟨VQ_0,VQ_1,VQ_2,VQ_3⟩ := id VQ
    obtain ⟨q1,q2,q3,q4⟩ := id VR
    go_wp2
    (try simp only [Exit.inBlock,Exit.then])
    refine bodyPost_ret (v := .agg #[.bool pq,.slice aq nq cq]) (by simp [results,go_sem,q1,q2]) rfl ?_
    exact ⟨_,rfl,hq_n,BB_n⟩
   exact AllReadyH.nil
  refine xC (h := fun K hK => ?_) (hs := ?_)
  ·
   go_simp
   have hZ10 : w.heap.size ≤ w1.heap.size := BB.size
   have hN10VA : w.heap.size ≠ w1.heap.size := Nat.ne_of_lt VA.lt
   have hN10VR : w.heap.size + 1 ≠ w1.heap.size := Nat.ne_of_lt VR.lt
   obtain ⟨W10,hW10,hS10,hL10,VQ⟩ := V2.lay w1 26 (.bool false) (.slice none 0 0)
   replace hz := hz.below hL10
   replace hx := hx.below hL10
   replace h1 := h1.below hL10
   replace VA := VA.below hL10
   replace VR := VR.below hL10
   replace BB := BB.trans (hL10.mono BB.size)
   clear hL10
   rw [← hW10]
   generalize w1.heap.size = R10 at *
   clear hW10 hS10
   refine hK.out _ _ ?_ (fun hH2 => ?_)
   ·exact ⟨VA.1,VA.2.1,VA.2.2.1⟩
   clear hK K hH1
   (try simp only [Act.put,xL4,xL5,xL6])
   refine xR [4,9] (h := ?_)
   refine xC (h := fun K hK => ?_) (hs := ?_)
   ·
    go_simp
    refine (rover_any _ _ z (x : Int) _ hz h1 (by omega) l3 l4).mono ?_
    rintro e w3 ⟨e2,e3,rfl,hq,hr,b3⟩
    obtain ⟨pq,aq,nq,cq,rfl⟩ := hq.open
    obtain ⟨pr,ar,nr,cr,rfl⟩ := hr.open
    go_wp2_with fail
    replace hz := hz.below b3
    replace hx := hx.below b3
    replace h1 := h1.below b3
    replace VA := VA.below b3
    replace VR := VR.below b3
    replace VQ := VQ.below b3
    replace BB := BB.trans (b3.mono BB.size)
    clear b3
    refine hK.out _ _ ?_ (fun hH3 => ?_)
    ·exact ⟨VA.1,VA.2.1,VA.2.2.1⟩
    clear hK K hH2
    (try simp only [Act.put,xL4,xL5,xL6])
    refine xT 5 (v := ?_) (hy := Or.inl ⟨by rfl,?_⟩) (h := ?_)
    rotate_left
    ·(intro w hSw; (try dsimp only at hSw); go_simp; (try with_reducible rfl))
    (try simp only [Act.put,xL4,xL5,xL6])
    refine xT 6 (v := ?_) (hy := Or.inl ⟨by rfl,?_⟩) (h := ?_)
    rotate_left
    ·(intro w hSw; (try dsimp only at hSw); go_simp; (try with_reducible rfl))
    (try simp only [Act.put,xL4,xL5,xL6])
    refine xT 7 (v := ?_) (hy := Or.inl ⟨by rfl,?_⟩) (h := ?_)
    rotate_left
    ·(intro w hSw; (try dsimp only at hSw); go_simp; (try with_reducible rfl))
    (try simp only [Act.put,xL4,xL5,xL6])
    refine xR [9] (h := ?_)
    refine xN (h := fun K hK => ?_)
    go_simp
    have hZ11 : w.heap.size ≤ w3.heap.size := BB.size
    have hN11VA : w.heap.size ≠ w3.heap.size := Nat.ne_of_lt VA.lt
    have hN11VR : w.heap.size + 1 ≠ w3.heap.size := Nat.ne_of_lt VR.lt
    have hN11VQ : R10 ≠ w3.heap.size := Nat.ne_of_lt VQ.lt
    obtain ⟨W11,hW11,hS11,hL11,VM⟩ := V2.lay w3 26 (.bool false) (.slice none 0 0)
    replace hz := hz.below hL11
    replace hx := hx.below hL11
    replace h1 := h1.below hL11
    replace hq := hq.below hL11
    replace hr := hr.below hL11
    replace VA := VA.below hL11
    replace VR := VR.below hL11
    replace VQ := VQ.below hL11
    replace BB := BB.trans (hL11.mono BB.size)
    clear hL11
    rw [← hW11]
    generalize w3.heap.size = R11 at *
    clear hW11 hS11
    refine hK.out _ _ ?_ (fun hH4 => ?_)
    ·exact ⟨VA.1,VA.2.1,VA.2.2.1⟩
    clear hK K hH3
    (try simp only [Act.put,xL4,xL5,xL6])
    refine xR [10] (h := ?_)
    refine xN (h := fun K hK => ?_)
    have hKp := VQ.keepJ (.bool pq) (.slice aq nq cq)
    have VA_n := VA.other2 (R := R10) (by omega) (.bool pq) (.slice aq nq cq)
    have VR_n := VR.other (R := R10) (by omega) (.bool pq) (.slice aq nq cq)
    have VM_n := VM.other (R := R10) (by omega) (.bool pq) (.slice aq nq cq)
    have VQ_n := VQ.same (.bool pq) (.slice aq nq cq)
    have hz_n := hz.keep hKp
    have hx_n := hx.keep hKp
    have h1_n := h1.keep hKp
    have hq_n := hq.keep hKp
    have hr_n := hr.keep hKp
    have BB_n := below_store2 (R := R10) BB (by omega) (.bool pq) (.slice aq nq cq)
    clear hKp
    obtain ⟨VQ_0,VQ_1,VQ_2,VQ_3⟩ := id VQ
    go_simp
    clear VQ_0 VQ_1 VQ_2 VQ_3
    clear BB hz hx h1 hq hr VA VR VQ VM
    generalize (W11.setCell ⟨R10,0,none⟩ (.bool pq)).setCell ⟨R10,1,none⟩ (.slice aq nq cq) = W12 at *
    have BB := BB_n
    have hz := hz_n
    have hx := hx_n
    have h1 := h1_n
    have hq := hq_n
    have hr := hr_n
    have VA := VA_n
    have VR := VR_n
    have VQ := VQ_n
    have VM := VM_n
    clear BB_n hz_n hx_n h1_n hq_n hr_n VA_n VR_n VQ_n VM_n
    refine hK.out _ _ ?_ (fun hH5 => ?_)
    ·exact ⟨VA.1,VA.2.1,VA.2.2.1⟩
    clear hK K hH4
    (try simp only [Act.put,xL4,xL5,xL6])
    refine xR [11] (h := ?_)
    refine xN (h := fun K hK => ?_)
    have hKp := VM.keepJ (.bool pr) (.slice ar nr cr)
    have VA_n := VA.other2 (R := R11) (by omega) (.bool pr) (.slice ar nr cr)
    have VR_n := VR.other (R := R11) (by omega) (.bool pr) (.slice ar nr cr)
    have VQ_n := VQ.other (R := R11) (by omega) (.bool pr) (.slice ar nr cr)
    have VM_n := VM.same (.bool pr) (.slice ar nr cr)
    have hz_n := hz.keep hKp
    have hx_n := hx.keep hKp
    have h1_n := h1.keep hKp
    have hq_n := hq.keep hKp
    have hr_n := hr.keep hKp
    have BB_n := below_store2 (R := R11) BB (by omega) (.bool pr) (.slice ar nr cr)
    clear hKp
    obtain ⟨VM_0,VM_1,VM_2,VM_3⟩ := id VM
    go_simp
    clear VM_0 VM_1 VM_2 VM_3
    clear BB hz hx h1 hq hr VA VR VQ VM
    generalize (W12.setCell ⟨R11,0,none⟩ (.bool pr)).setCell ⟨R11,1,none⟩ (.slice ar nr cr) = W13 at *
    have BB := BB_n
    have hz := hz_n
    have hx := hx_n
    have h1 := h1_n
    have hq := hq_n
    have hr := hr_n
    have VA := VA_n
    have VR := VR_n
    have VQ := VQ_n
    have VM := VM_n
    clear BB_n hz_n hx_n h1_n hq_n hr_n VA_n VR_n VQ_n VM_n
    refine hK.out _ _ ?_ (fun hH6 => ?_)
    ·exact ⟨VA.1,VA.2.1,VA.2.2.1⟩
    clear hK K hH5
    (try simp only [Act.put,xL4,xL5,xL6])
    refine wpAnyH_done (by kernel_rfl) ?_ _
    clear hH6
    have hKp := VR.keepJ (.bool pq) (.slice aq nq cq)
    have hz_n := hz.keep hKp
    have hx_n := hx.keep hKp
    have h1_n := h1.keep hKp
    have hq_n := hq.keep hKp
    have hr_n := hr.keep hKp
    have BB_n := below_store2 (R := w.heap.size + 1) BB (by omega) (.bool pq) (.slice aq nq cq)
    clear hKp
    obtain ⟨VQ_0,VQ_1,VQ_2,VQ_3⟩ := id VQ
    obtain ⟨q1,q2,q3,q4⟩ := id VR
    go_wp2
    (try simp only [Exit.inBlock,Exit.then])
    refine bodyPost_ret (v := .agg #[.bool pq,.slice aq nq cq]) (by simp [results,go_sem,q1,q2]) rfl ?_
    exact ⟨_,rfl,hq_n,BB_n⟩
   refine xC (h := fun K hK => ?_) (hs := ?_)
   ·
    go_simp
    have hZ14 : w.heap.size ≤ W10.heap.size := BB.size
    have hN14VA : w.heap.size ≠ W10.heap.size := Nat.ne_of_lt VA.lt
    have hN14VR : w.heap.size + 1 ≠ W10.heap.size := Nat.ne_of_lt VR.lt
    have hN14VQ : R10 ≠ W10.heap.size := Nat.ne_of_lt VQ.lt
    obtain ⟨W14,hW14,hS14,hL14,VM⟩ := V2.lay W10 26 (.bool false) (.slice none 0 0)
    replace hz := hz.below hL14
    replace hx := hx.below hL14
    replace h1 := h1.below hL14
    replace VA := VA.below hL14
    replace VR := VR.below hL14
    replace VQ := VQ.below hL14
    replace BB := BB.trans (hL14.mono BB.size)
    clear hL14
    rw [← hW14]
    generalize W10.heap.size = R14 at *
    clear hW14 hS14
    refine hK.out _ _ ?_ (fun hH3 => ?_)
    ·exact ⟨VA.1,VA.2.1,VA.2.2.1⟩
    clear hK K hH2
    (try simp only [Act.put,xL4,xL5,xL6])
    refine xR [4] (h := ?_)
    refine xN (h := fun K hK => ?_)
    go_simp
    refine (rover_any _ _ z (x : Int) _ hz h1 (by omega) l3 l4).mono ?_
    rintro e w4 ⟨e2,e3,rfl,hq,hr,b4⟩
    obtain ⟨pq,aq,nq,cq,rfl⟩ := hq.open
    obtain ⟨pr,ar,nr,cr,rfl⟩ := hr.open
    go_wp2_with fail
    replace hz := hz.below b4
    replace hx := hx.below b4
    replace h1 := h1.below b4
    replace VA := VA.below b4
    replace VR := VR.below b4
    replace VQ := VQ.below b4
    replace VM := VM.below b4
    replace BB := BB.trans (b4.mono BB.size)
    clear b4
    refine hK.out _ _ ?_ (fun hH4 => ?_)
    ·exact ⟨VA.1,VA.2.1,VA.2.2.1⟩
    clear hK K hH3
    (try simp only [Act.put,xL4,xL5,xL6])
    refine xT 5 (v := ?_) (hy := Or.inl ⟨by rfl,?_⟩) (h := ?_)
    rotate_left
    ·(intro w hSw; (try dsimp only at hSw); go_simp; (try with_reducible rfl))
    (try simp only [Act.put,xL4,xL5,xL6])
    refine xT 6 (v := ?_) (hy := Or.inl ⟨by rfl,?_⟩) (h := ?_)
    rotate_left
    ·(intro w hSw; (try dsimp only at hSw); go_simp; (try with_reducible rfl))
    (try simp only [Act.put,xL4,xL5,xL6])
    refine xT 7 (v := ?_) (hy := Or.inl ⟨by rfl,?_⟩) (h := ?_)
    rotate_left
    ·(intro w hSw; (try dsimp only at hSw); go_simp; (try with_reducible rfl))
    (try simp only [Act.put,xL4,xL5,xL6])
    refine xR [10] (h := ?_)
    refine xN (h := fun K hK => ?_)
    have hKp := VQ.keepJ (.bool pq) (.slice aq nq cq)
    have VA_n := VA.other2 (R := R10) (by omega) (.bool pq) (.slice aq nq cq)
    have VR_n := VR.other (R := R10) (by omega) (.bool pq) (.slice aq nq cq)
    have VM_n := VM.other (R := R10) (by omega) (.bool pq) (.slice aq nq cq)
    have VQ_n := VQ.same (.bool pq) (.slice aq nq cq)
    have hz_n := hz.keep hKp
    have hx_n := hx.keep hKp
    have h1_n := h1.keep hKp
    have hq_n := hq.keep hKp
    have hr_n := hr.keep hKp
    have BB_n := below_store2 (R := R10) BB (by omega) (.bool pq) (.slice aq nq cq)
    clear hKp
    obtain ⟨VQ_0,VQ_1,VQ_2,VQ_3⟩ := id VQ
    go_simp
    clear VQ_0 VQ_1 VQ_2 VQ_3
    clear BB hz hx h1 hq hr VA VR VQ VM
    generalize (w4.setCell ⟨R10,0,none⟩ (.bool pq)).setCell ⟨R10,1,none⟩ (.slice aq nq cq) = W15 at *
    have BB := BB_n
    have hz := hz_n
    have hx := hx_n
    have h1 := h1_n
    have hq := hq_n
    have hr := hr_n
    have VA := VA_n
    have VR := VR_n
    have VQ := VQ_n
    have VM := VM_n
    clear BB_n hz_n hx_n h1_n hq_n hr_n VA_n VR_n VQ_n VM_n
    refine hK.out _ _ ?_ (fun hH5 => ?_)
    ·exact ⟨VA.1,VA.2.1,VA.2.2.1⟩
    clear hK K hH4
    (try simp only [Act.put,xL4,xL5,xL6])
    refine xR [11] (h := ?_)
    refine xN (h := fun K hK => ?_)
    have hKp := VM.keepJ (.bool pr) (.slice ar nr cr)
    have VA_n := VA.other2 (R := R14) (by omega) (.bool pr) (.slice ar nr cr)
    have VR_n := VR.other (R := R14) (by omega) (.bool pr) (.slice ar nr cr)
    have VQ_n := VQ.other (R := R14) (by omega) (.bool pr) (.slice ar nr cr)
    have VM_n := VM.same (.bool pr) (.slice ar nr cr)
    have hz_n := hz.keep hKp
    have hx_n := hx.keep hKp
    have h1_n := h1.keep hKp
    have hq_n := hq.keep hKp
    have hr_n := hr.keep hKp
    have BB_n := below_store2 (R := R14) BB (by omega) (.bool pr) (.slice ar nr cr)
    clear hKp
    obtain ⟨VM_0,VM_1,VM_2,VM_3⟩ := id VM
    go_simp
    clear VM_0 VM_1 VM_2 VM_3
    clear BB hz hx h1 hq hr VA VR VQ VM
    generalize (W15.setCell ⟨R14,0,none⟩ (.bool pr)).setCell ⟨R14,1,none⟩ (.slice ar nr cr) = W16 at *
    have BB := BB_n
    have hz := hz_n
    have hx := hx_n
    have h1 := h1_n
    have hq := hq_n
    have hr := hr_n
    have VA := VA_n
    have VR := VR_n
    have VQ := VQ_n
    have VM := VM_n
    clear BB_n hz_n hx_n h1_n hq_n hr_n VA_n VR_n VQ_n VM_n
    refine hK.out _ _ ?_ (fun hH6 => ?_)
    ·exact ⟨VA.1,VA.2.1,VA.2.2.1⟩
    clear hK K hH5
    (try simp only [Act.put,xL4,xL5,xL6])
    refine wpAnyH_done (by kernel_rfl) ?_ _
    clear hH6
    have hKp := VR.keepJ (.bool pq) (.slice aq nq cq)
    have hz_n := hz.keep hKp
    have hx_n := hx.keep hKp
    have h1_n := h1.keep hKp
    have hq_n := hq.keep hKp
    have hr_n := hr.keep hKp
    have BB_n := below_store2 (R := w.heap.size + 1) BB (by omega) (.bool pq) (.slice aq nq cq)
    clear hKp
    obtain ⟨VQ_0,VQ_1,VQ_2,VQ_3⟩ := id VQ
    obtain ⟨q1,q2,q3,q4⟩ := id VR
    go_wp2
    (try simp only [Exit.inBlock,Exit.then])
    refine bodyPost_ret (v := .agg #[.bool pq,.slice aq nq cq]) (by simp [results,go_sem,q1,q2]) rfl ?_
    exact ⟨_,rfl,hq_n,BB_n⟩
   exact AllReadyH.nil
  refine xC (h := fun K hK => ?_) (hs := ?_)
  ·
   go_simp
   have hZ17 : w.heap.size ≤ w1.heap.size := BB.size
   have hN17VA : w.heap.size ≠ w1.heap.size := Nat.ne_of_lt VA.lt
   have hN17VR : w.heap.size + 1 ≠ w1.heap.size := Nat.ne_of_lt VR.lt
   obtain ⟨W17,hW17,hS17,hL17,VM⟩ := V2.lay w1 26 (.bool false) (.slice none 0 0)
   replace hz := hz.below hL17
   replace hx := hx.below hL17
   replace h1 := h1.below hL17
   replace VA := VA.below hL17
   replace VR := VR.below hL17
   replace BB := BB.trans (hL17.mono BB.size)
   clear hL17
   rw [← hW17]
   generalize w1.heap.size = R17 at *
   clear hW17 hS17
   refine hK.out _ _ ?_ (fun hH2 => ?_)
   ·exact ⟨VA.1,VA.2.1,VA.2.2.1⟩
   clear hK K hH1
   (try simp only [Act.put,xL4,xL5,xL6])
   refine xR [4,8] (h := ?_)
   refine xC (h := fun K hK => ?_) (hs := ?_)
   ·
    go_simp
    refine (rover_any _ _ z (x : Int) _ hz h1 (by omega) l3 l4).mono ?_
    rintro e w5 ⟨e2,e3,rfl,hq,hr,b5⟩
    obtain ⟨pq,aq,nq,cq,rfl⟩ := hq.open
    obtain ⟨pr,ar,nr,cr,rfl⟩ := hr.open
    go_wp2_with fail
    replace hz := hz.below b5
    replace hx := hx.below b5
    replace h1 := h1.below b5
    replace VA := VA.below b5
    replace VR := VR.below b5
    replace VM := VM.below b5
    replace BB := BB.trans (b5.mono BB.size)
    clear b5
    refine hK.out _ _ ?_ (fun hH3 => ?_)
    ·exact ⟨VA.1,VA.2.1,VA.2.2.1⟩
    clear hK K hH2
    (try simp only [Act.put,xL4,xL5,xL6])
    refine xT 5 (v := ?_) (hy := Or.inl ⟨by rfl,?_⟩) (h := ?_)
    rotate_left
    ·(intro w hSw; (try dsimp only at hSw); go_simp; (try with_reducible rfl))
    (try simp only [Act.put,xL4,xL5,xL6])
    refine xT 6 (v := ?_) (hy := Or.inl ⟨by rfl,?_⟩) (h := ?_)
    rotate_left
    ·(intro w hSw; (try dsimp only at hSw); go_simp; (try with_reducible rfl))
    (try simp only [Act.put,xL4,xL5,xL6])
    refine xT 7 (v := ?_) (hy := Or.inl ⟨by rfl,?_⟩) (h := ?_)
    rotate_left
    ·(intro w hSw; (try dsimp only at hSw); go_simp; (try with_reducible rfl))
    (try simp only [Act.put,xL4,xL5,xL6])
    refine xR [8] (h := ?_)
    refine xN (h := fun K hK => ?_)
    go_simp
    have hZ18 : w.heap.size ≤ w5.heap.size := BB.size
    have hN18VA : w.heap.size ≠ w5.heap.size := Nat.ne_of_lt VA.lt
    have hN18VR : w.heap.size + 1 ≠ w5.heap.size := Nat.ne_of_lt VR.lt
    have hN18VM : R17 ≠ w5.heap.size := Nat.ne_of_lt VM.lt
    obtain ⟨W18,hW18,hS18,hL18,VQ⟩ := V2.lay w5 26 (.bool false) (.slice none 0 0)
    replace hz := hz.below hL18
    replace hx := hx.below hL18
    replace h1 := h1.below hL18
    replace hq := hq.below hL18
    replace hr := hr.below hL18
    replace VA := VA.below hL18
    replace VR := VR.below hL18
    replace VM := VM.below hL18
    replace BB := BB.trans (hL18.mono BB.size)
    clear hL18
    rw [← hW18]
    generalize w5.heap.size = R18 at *
    clear hW18 hS18
    refine hK.out _ _ ?_ (fun hH4 => ?_)
    ·exact ⟨VA.1,VA.2.1,VA.2.2.1⟩
    clear hK K hH3
    (try simp only [Act.put,xL4,xL5,xL6])
    refine xR [10] (h := ?_)
    refine xN (h := fun K hK => ?_)
    have hKp := VQ.keepJ (.bool pq) (.slice aq nq cq)
    have VA_n := VA.other2 (R := R18) (by omega) (.bool pq) (.slice aq nq cq)
    have VR_n := VR.other (R := R18) (by omega) (.bool pq) (.slice aq nq cq)
    have VM_n := VM.other (R := R18) (by omega) (.bool pq) (.slice aq nq cq)
    have VQ_n := VQ.same (.bool pq) (.slice aq nq cq)
    have hz_n := hz.keep hKp
    have hx_n := hx.keep hKp
    have h1_n := h1.keep hKp
    have hq_n := hq.keep hKp
    have hr_n := hr.keep hKp
    have BB_n := below_store2 (R := R18) BB (by omega) (.bool pq) (.slice aq nq cq)
    clear hKp
    obtain ⟨VQ_0,VQ_1,VQ_2,VQ_3⟩ := id VQ
    go_simp
    clear VQ_0 VQ_1 VQ_2 VQ_3
    clear BB hz hx h1 hq hr VA VR VM VQ
    generalize (W18.setCell ⟨R18,0,none⟩ (.bool pq)).setCell ⟨R18,1,none⟩ (.slice aq nq cq) = W19 at *
    have BB := BB_n
    have hz := hz_n
    have hx := hx_n
    have h1 := h1_n
    have hq := hq_n
    have hr := hr_n
    have VA := VA_n
    have VR := VR_n
    have VM := VM_n
    have VQ := VQ_n
    clear BB_n hz_n hx_n h1_n hq_n hr_n VA_n VR_n VM_n VQ_n
    refine hK.out _ _ ?_ (fun hH5 => ?_)
    ·exact ⟨VA.1,VA.2.1,VA.2.2.1⟩
    clear hK K hH4
    (try simp only [Act.put,xL4,xL5,xL6])
    refine xR [11] (h := ?_)
    refine xN (h := fun K hK => ?_)
    have hKp := VM.keepJ (.bool pr) (.slice ar nr cr)
    have VA_n := VA.other2 (R := R17) (by omega) (.bool pr) (.slice ar nr cr)
    have VR_n := VR.other (R := R17) (by omega) (.bool pr) (.slice ar nr cr)
    have VQ_n := VQ.other (R := R17) (by omega) (.bool pr) (.slice ar nr cr)
    have VM_n := VM.same (.bool pr) (.slice ar nr cr)
    have hz_n := hz.keep hKp
    have hx_n := hx.keep hKp
    have h1_n := h1.keep hKp
    have hq_n := hq.keep hKp
    have hr_n := hr.keep hKp
    have BB_n := below_store2 (R := R17) BB (by omega) (.bool pr) (.slice ar nr cr)
    clear hKp
    obtain ⟨VM_0,VM_1,VM_2,VM_3⟩ := id VM
    go_simp
    clear VM_0 VM_1 VM_2 VM_3
    clear BB hz hx h1 hq hr VA VR VM VQ
    generalize (W19.setCell ⟨R17,0,none⟩ (.bool pr)).setCell ⟨R17,1,none⟩ (.slice ar nr cr) = W20 at *
    have BB := BB_n
    have hz := hz_n
    have hx := hx_n
    have h1 := h1_n
    have hq := hq_n
    have hr := hr_n
    have VA := VA_n
    have VR := VR_n
    have VM := VM_n
    have VQ := VQ_n
    clear BB_n hz_n hx_n h1_n hq_n hr_n VA_n VR_n VM_n VQ_n
    refine hK.out _ _ ?_ (fun hH6 => ?_)
    ·exact ⟨VA.1,VA.2.1,VA.2.2.1⟩
    clear hK K hH5
    (try simp only [Act.put,xL4,xL5,xL6])
    refine wpAnyH_done (by kernel_rfl) ?_ _
    clear hH6
    have hKp := VR.keepJ (.bool pq) (.slice aq nq cq)
    have hz_n := hz.keep hKp
    have hx_n := hx.keep hKp
    have h1_n := h1.keep hKp
    have hq_n := hq.keep hKp
    have hr_n := hr.keep hKp
    have BB_n := below_store2 (R := w.heap.size + 1) BB (by omega) (.bool pq) (.slice aq nq cq)
    clear hKp
    obtain ⟨VQ_0,VQ_1,VQ_2,VQ_3⟩ := id VQ
    obtain ⟨q1,q2,q3,q4⟩ := id VR
    go_wp2
    (try simp only [Exit.inBlock,Exit.then])
    refine bodyPost_ret (v := .agg #[.bool pq,.slice aq nq cq]) (by simp [results,go_sem,q1,q2]) rfl ?_
    exact ⟨_,rfl,hq_n,BB_n⟩
   refine xC (h := fun K hK => ?_) (hs := ?_)
   ·
    go_simp
    have hZ21 : w.heap.size ≤ W17.heap.size := BB.size
    have hN21VA : w.heap.size ≠ W17.heap.size := Nat.ne_of_lt VA.lt
    have hN21VR : w.heap.size + 1 ≠ W17.heap.size := Nat.ne_of_lt VR.lt
    have hN21VM : R17 ≠ W17.heap.size := Nat.ne_of_lt VM.lt
    obtain ⟨W21,hW21,hS21,hL21,VQ⟩ := V2.lay W17 26 (.bool false) (.slice none 0 0)
    replace hz := hz.below hL21
    replace hx := hx.below hL21
    replace h1 := h1.below hL21
    replace VA := VA.below hL21
    replace VR := VR.below hL21
    replace VM := VM.below hL21
    replace BB := BB.trans (hL21.mono BB.size)
    clear hL21
    rw [← hW21]
    generalize W17.heap.size = R21 at *
    clear hW21 hS21
    refine hK.out _ _ ?_ (fun hH3 => ?_)
    ·exact ⟨VA.1,VA.2.1,VA.2.2.1⟩
    clear hK K hH2
    (try simp only [Act.put,xL4,xL5,xL6])
    refine xR [4] (h := ?_)
    refine xN (h := fun K hK => ?_)
    go_simp
    refine (rover_any _ _ z (x : Int) _ hz h1 (by omega) l3 l4).mono ?_
    rintro e w6 ⟨e2,e3,rfl,hq,hr,b6⟩
    obtain ⟨pq,aq,nq,cq,rfl⟩ := hq.open
    obtain ⟨pr,ar,nr,cr,rfl⟩ := hr.open
    go_wp2_with fail
    replace hz := hz.below b6
    replace hx := hx.below b6
    replace h1 := h1.below b6
    replace VA := VA.below b6
    replace VR := VR.below b6
    replace VM := VM.below b6
    replace VQ := VQ.below b6
    replace BB := BB.trans (b6.mono BB.size)
    clear b6
    refine hK.out _ _ ?_ (fun hH4 => ?_)
    ·exact ⟨VA.1,VA.2.1,VA.2.2.1⟩
    clear hK K hH3
    (try simp only [Act.put,xL4,xL5,xL6])
    refine xT 5 (v := ?_) (hy := Or.inl ⟨by rfl,?_⟩) (h := ?_)
    rotate_left
    ·(intro w hSw; (try dsimp only at hSw); go_simp; (try with_reducible rfl))
    (try simp only [Act.put,xL4,xL5,xL6])
    refine xT 6 (v := ?_) (hy := Or.inl ⟨by rfl,?_⟩) (h := ?_)
    rotate_left
    ·(intro w hSw; (try dsimp only at hSw); go_simp; (try with_reducible rfl))
    (try simp only [Act.put,xL4,xL5,xL6])
    refine xT 7 (v := ?_) (hy := Or.inl ⟨by rfl,?_⟩) (h := ?_)
    rotate_left
    ·(intro w hSw; (try dsimp only at hSw); go_simp; (try with_reducible rfl))
    (try simp only [Act.put,xL4,xL5,xL6])
    refine xR [10] (h := ?_)
    refine xN (h := fun K hK => ?_)
    have hKp := VQ.keepJ (.bool pq) (.slice aq nq cq)
    have VA_n := VA.other2 (R := R21) (by omega) (.bool pq) (.slice aq nq cq)
    have VR_n := VR.other (R := R21) (by omega) (.bool pq) (.slice aq nq cq)
    have VM_n := VM.other (R := R21) (by omega) (.bool pq) (.slice aq nq cq)
    have VQ_n := VQ.same (.bool pq) (.slice aq nq cq)
    have hz_n := hz.keep hKp
    have hx_n := hx.keep hKp
    have h1_n := h1.keep hKp
    have hq_n := hq.keep hKp
    have hr_n := hr.keep hKp
    have BB_n := below_store2 (R := R21) BB (by omega) (.bool pq) (.slice aq nq cq)
    clear hKp
    obtain ⟨VQ_0,VQ_1,VQ_2,VQ_3⟩ := id VQ
    go_simp
    clear VQ_0 VQ_1 VQ_2 VQ_3
    clear BB hz hx h1 hq hr VA VR VM VQ
    generalize (w6.setCell ⟨R21,0,none⟩ (.bool pq)).setCell ⟨R21,1,none⟩ (.slice aq nq cq) = W22 at *
    have BB := BB_n
    have hz := hz_n
    have hx := hx_n
    have h1 := h1_n
    have hq := hq_n
    have hr := hr_n
    have VA := VA_n
    have VR := VR_n
    have VM := VM_n
    have VQ := VQ_n
    clear BB_n hz_n hx_n h1_n hq_n hr_n VA_n VR_n VM_n VQ_n
    refine hK.out _ _ ?_ (fun hH5 => ?_)
    ·exact ⟨VA.1,VA.2.1,VA.2.2.1⟩
    clear hK K hH4
    (try simp only [Act.put,xL4,xL5,xL6])
    refine xR [11] (h := ?_)
    refine xN (h := fun K hK => ?_)
    have hKp := VM.keepJ (.bool pr) (.slice ar nr cr)
    have VA_n := VA.other2 (R := R17) (by omega) (.bool pr) (.slice ar nr cr)
    have VR_n := VR.other (R := R17) (by omega) (.bool pr) (.slice ar nr cr)
    have VQ_n := VQ.other (R := R17) (by omega) (.bool pr) (.slice ar nr cr)
    have VM_n := VM.same (.bool pr) (.slice ar nr cr)
    have hz_n := hz.keep hKp
    have hx_n := hx.keep hKp
    have h1_n := h1.keep hKp
    have hq_n := hq.keep hKp
    have hr_n := hr.keep hKp
    have BB_n := below_store2 (R := R17) BB (by omega) (.bool pr) (.slice ar nr cr)
    clear hKp
    obtain ⟨VM_0,VM_1,VM_2,VM_3⟩ := id VM
    go_simp
    clear VM_0 VM_1 VM_2 VM_3
    clear BB hz hx h1 hq hr VA VR VM VQ
    generalize (W22.setCell ⟨R17,0,none⟩ (.bool pr)).setCell ⟨R17,1,none⟩ (.slice ar nr cr) = W23 at *
    have BB := BB_n
    have hz := hz_n
    have hx := hx_n
    have h1 := h1_n
    have hq := hq_n
    have hr := hr_n
    have VA := VA_n
    have VR := VR_n
    have VM := VM_n
    have VQ := VQ_n
    clear BB_n hz_n hx_n h1_n hq_n hr_n VA_n VR_n VM_n VQ_n
    refine hK.out _ _ ?_ (fun hH6 => ?_)
    ·exact ⟨VA.1,VA.2.1,VA.2.2.1⟩
    clear hK K hH5
    (try simp only [Act.put,xL4,xL5,xL6])
    refine wpAnyH_done (by kernel_rfl) ?_ _
    clear hH6
    have hKp := VR.keepJ (.bool pq) (.slice aq nq cq)
    have hz_n := hz.keep hKp
    have hx_n := hx.keep hKp
    have h1_n := h1.keep hKp
    have hq_n := hq.keep hKp
    have hr_n := hr.keep hKp
    have BB_n := below_store2 (R := w.heap.size + 1) BB (by omega) (.bool pq) (.slice aq nq cq)
    clear hKp
    obtain ⟨VQ_0,VQ_1,VQ_2,VQ_3⟩ := id VQ
    obtain ⟨q1,q2,q3,q4⟩ := id VR
    go_wp2
    (try simp only [Exit.inBlock,Exit.then])
    refine bodyPost_ret (v := .agg #[.bool pq,.slice aq nq cq]) (by simp [results,go_sem,q1,q2]) rfl ?_
    exact ⟨_,rfl,hq_n,BB_n⟩
   exact AllReadyH.nil
  exact AllReadyH.nil
 refine xC (h := fun K hK => ?_) (hs := ?_)
 ·
  go_simp
  have hZ24 : w.heap.size ≤ W1.heap.size := BB.size
  have hN24VA : w.heap.size ≠ W1.heap.size := Nat.ne_of_lt VA.lt
  have hN24VR : w.heap.size + 1 ≠ W1.heap.size := Nat.ne_of_lt VR.lt
  obtain ⟨W24,hW24,hS24,hL24,VQ⟩ := V2.lay W1 26 (.bool false) (.slice none 0 0)
  replace hz := hz.below hL24
  replace hx := hx.below hL24
  replace VA := VA.below hL24
  replace VR := VR.below hL24
  replace BB := BB.trans (hL24.mono BB.size)
  clear hL24
  rw [← hW24]
  generalize W1.heap.size = R24 at *
  clear hW24 hS24
  refine hK.out _ _ ?_ (fun hH1 => ?_)
  ·exact ⟨VA.1,VA.2.1,VA.2.2.1⟩
  clear hK K hHeld
  (try simp only [Act.put,xL4,xL5,xL6])
  refine xR [3,9] (h := ?_)
  refine xC (h := fun K hK => ?_) (hs := ?_)
  ·
   go_simp
   refine (den_at p ao n c bo m d x _ hx).mono ?_
   rintro e w7 ⟨e1,rfl,h1,b7⟩
   go_wp2_with fail
   replace hz := hz.below b7
   replace hx := hx.below b7
   replace VA := VA.below b7
   replace VR := VR.below b7
   replace VQ := VQ.below b7
   replace BB := BB.trans (b7.mono BB.size)
   clear b7
   refine hK.out _ _ ?_ (fun hH2 => ?_)
   ·exact ⟨VA.1,VA.2.1,VA.2.2.1⟩
   clear hK K hH1
   (try simp only [Act.put,xL4,xL5,xL6])
   refine xR [4,9] (h := ?_)
   refine xC (h := fun K hK => ?_) (hs := ?_)
   ·
    go_simp
    refine (rover_any _ _ z (x : Int) _ hz h1 (by omega) l3 l4).mono ?_
    rintro e w8 ⟨e2,e3,rfl,hq,hr,b8⟩
    obtain ⟨pq,aq,nq,cq,rfl⟩ := hq.open
    obtain ⟨pr,ar,nr,cr,rfl⟩ := hr.open
    go_wp2_with fail
    replace hz := hz.below b8
    replace hx := hx.below b8
    replace h1 := h1.below b8
    replace VA := VA.below b8
    replace VR := VR.below b8
    replace VQ := VQ.below b8
    replace BB := BB.trans (b8.mono BB.size)
    clear b8
    refine hK.out _ _ ?_ (fun hH3 => ?_)
    ·exact ⟨VA.1,VA.2.1,VA.2.2.1⟩
    clear hK K hH2
    (try simp only [Act.put,xL4,xL5,xL6])
    refine xT 5 (v := ?_) (hy := Or.inl ⟨by rfl,?_⟩) (h := ?_)
    rotate_left
    ·(intro w hSw; (try dsimp only at hSw); go_simp; (try with_reducible rfl))
    (try simp only [Act.put,xL4,xL5,xL6])
    refine xT 6 (v := ?_) (hy := Or.inl ⟨by rfl,?_⟩) (h := ?_)
    rotate_left
    ·(intro w hSw; (try dsimp only at hSw); go_simp; (try with_reducible rfl))
    (try simp only [Act.put,xL4,xL5,xL6])
    refine xT 7 (v := ?_) (hy := Or.inl ⟨by rfl,?_⟩) (h := ?_)
    rotate_left
    ·(intro w hSw; (try dsimp only at hSw); go_simp; (try with_reducible rfl))
    (try simp only [Act.put,xL4,xL5,xL6])
    refine xR [9] (h := ?_)
    refine xN (h := fun K hK => ?_)
    go_simp
    have hZ25 : w.heap.size ≤ w8.heap.size := BB.size
    have hN25VA : w.heap.size ≠ w8.heap.size := Nat.ne_of_lt VA.lt
    have hN25VR : w.heap.size + 1 ≠ w8.heap.size := Nat.ne_of_lt VR.lt
    have hN25VQ : R24 ≠ w8.heap.size := Nat.ne_of_lt VQ.lt
    obtain ⟨W25,hW25,hS25,hL25,VM⟩ := V2.lay w8 26 (.bool false) (.slice none 0 0)
    replace hz := hz.below hL25
    replace hx := hx.below hL25
    replace h1 := h1.below hL25
    replace hq := hq.below hL25
    replace hr := hr.below hL25
    replace VA := VA.below hL25
    replace VR := VR.below hL25
    replace VQ := VQ.below hL25
    replace BB := BB.trans (hL25.mono BB.size)
    clear hL25
    rw [← hW25]
    generalize w8.heap.size = R25 at *
    clear hW25 hS25
    refine hK.out _ _ ?_ (fun hH4 => ?_)
    ·exact ⟨VA.1,VA.2.1,VA.2.2.1⟩
    clear hK K hH3
    (try simp only [Act.put,xL4,xL5,xL6])
    refine xR [10] (h := ?_)
    refine xN (h := fun K hK => ?_)
    have hKp := VQ.keepJ (.bool pq) (.slice aq nq cq)
    have VA_n := VA.other2 (R := R24) (by omega) (.bool pq) (.slice aq nq cq)
    have VR_n := VR.other (R := R24) (by omega) (.bool pq) (.slice aq nq cq)
    have VM_n := VM.other (R := R24) (by omega) (.bool pq) (.slice aq nq cq)
    have VQ_n := VQ.same (.bool pq) (.slice aq nq cq)
    have hz_n := hz.keep hKp
    have hx_n := hx.keep hKp
    have h1_n := h1.keep hKp
    have hq_n := hq.keep hKp
    have hr_n := hr.keep hKp
    have BB_n := below_store2 (R := R24) BB (by omega) (.bool pq) (.slice aq nq cq)
    clear hKp
    obtain ⟨VQ_0,VQ_1,VQ_2,VQ_3⟩ := id VQ
    go_simp
    clear VQ_0 VQ_1 VQ_2 VQ_3
    clear BB hz hx h1 hq hr VA VR VQ VM
    generalize (W25.setCell ⟨R24,0,none⟩ (.bool pq)).setCell ⟨R24,1,none⟩ (.slice aq nq cq) = W26 at *
    have BB := BB_n
    have hz := hz_n
    have hx := hx_n
    have h1 := h1_n
    have hq := hq_n
    have hr := hr_n
    have VA := VA_n
    have VR := VR_n
    have VQ := VQ_n
    have VM := VM_n
    clear BB_n hz_n hx_n h1_n hq_n hr_n VA_n VR_n VQ_n VM_n
    refine hK.out _ _ ?_ (fun hH5 => ?_)
    ·exact ⟨VA.1,VA.2.1,VA.2.2.1⟩
    clear hK K hH4
    (try simp only [Act.put,xL4,xL5,xL6])
    refine xR [11] (h := ?_)
    refine xN (h := fun K hK => ?_)
    have hKp := VM.keepJ (.bool pr) (.slice ar nr cr)
    have VA_n := VA.other2 (R := R25) (by omega) (.bool pr) (.slice ar nr cr)
    have VR_n := VR.other (R := R25) (by omega) (.bool pr) (.slice ar nr cr)
    have VQ_n := VQ.other (R := R25) (by omega) (.bool pr) (.slice ar nr cr)
    have VM_n := VM.same (.bool pr) (.slice ar nr cr)
    have hz_n := hz.keep hKp
    have hx_n := hx.keep hKp
    have h1_n := h1.keep hKp
    have hq_n := hq.keep hKp
    have hr_n := hr.keep hKp
    have BB_n := below_store2 (R := R25) BB (by omega) (.bool pr) (.slice ar nr cr)
    clear hKp
    obtain ⟨VM_0,VM_1,VM_2,VM_3⟩ := id VM
    go_simp
    clear VM_0 VM_1 VM_2 VM_3
    clear BB hz hx h1 hq hr VA VR VQ VM
    generalize (W26.setCell ⟨R25,0,none⟩ (.bool pr)).setCell ⟨R25,1,none⟩ (.slice ar nr cr) = W27 at *
    have BB := BB_n
    have hz := hz_n
    have hx := hx_n
    have h1 := h1_n
    have hq := hq_n
    have hr := hr_n
    have VA := VA_n
    have VR := VR_n
    have VQ := VQ_n
    have VM := VM_n
    clear BB_n hz_n hx_n h1_n hq_n hr_n VA_n VR_n VQ_n VM_n
    refine hK.out _ _ ?_ (fun hH6 => ?_)
    ·exact ⟨VA.1,VA.2.1,VA.2.2.1⟩
    clear hK K hH5
    (try simp only [Act.put,xL4,xL5,xL6])
    refine wpAnyH_done (by kernel_rfl) ?_ _
    clear hH6
    have hKp := VR.keepJ (.bool pq) (.slice aq nq cq)
    have hz_n := hz.keep hKp
    have hx_n := hx.keep hKp
    have h1_n := h1.keep hKp
    have hq_n := hq.keep hKp
    have hr_n := hr.keep hKp
    have BB_n := below_store2 (R := w.heap.size + 1) BB (by omega) (.bool pq) (.slice aq nq cq)
    clear hKp
    obtain ⟨VQ_0,VQ_1,VQ_2,VQ_3⟩ := id VQ
    obtain ⟨q1,q2,q3,q4⟩ := id VR
    go_wp2
    (try simp only [Exit.inBlock,Exit.then])
    refine bodyPost_ret (v := .agg #[.bool pq,.slice aq nq cq]) (by simp [results,go_sem,q1,q2]) rfl ?_
    exact ⟨_,rfl,hq_n,BB_n⟩
   refine xC (h := fun K hK => ?_) (hs := ?_)
   ·
    go_simp
    have hZ28 : w.heap.size ≤ w7.heap.size := BB.size
    have hN28VA : w.heap.size ≠ w7.heap.size := Nat.ne_of_lt VA.lt
    have hN28VR : w.heap.size + 1 ≠ w7.heap.size := Nat.ne_of_lt VR.lt
    have hN28VQ : R24 ≠ w7.heap.size := Nat.ne_of_lt VQ.lt
    obtain ⟨W28,hW28,hS28,hL28,VM⟩ := V2.lay w7 26 (.bool false) (.slice none 0 0)
    replace hz := hz.below hL28
    replace hx := hx.below hL28
    replace h1 := h1.below hL28
    replace VA := VA.below hL28
    replace VR := VR.below hL28
    replace VQ := VQ.below hL28
    replace BB := BB.trans (hL28.mono BB.size)
    clear hL28
    rw [← hW28]
    generalize w7.heap.size = R28 at *
    clear hW28 hS28
    refine hK.out _ _ ?_ (fun hH3 => ?_)
    ·exact ⟨VA.1,VA.2.1,VA.2.2.1⟩
    clear hK K hH2
    (try simp only [Act.put,xL4,xL5,xL6])
    refine xR [4] (h := ?_)
    refine xN (h := fun K hK => ?_)
    go_simp
    refine (rover_any _ _ z (x : Int) _ hz h1 (by omega) l3 l4).mono ?_
    rintro e w9 ⟨e2,e3,rfl,hq,hr,b9⟩
    obtain ⟨pq,aq,nq,cq,rfl⟩ := hq.open
    obtain ⟨pr,ar,nr,cr,rfl⟩ := hr.open
    go_wp2_with fail
    replace hz := hz.below b9
    replace hx := hx.below b9
    replace h1 := h1.below b9
    replace VA := VA.below b9
    replace VR := VR.below b9
    replace VQ := VQ.below b9
    replace VM := VM.below b9
    replace BB := BB.trans (b9.mono BB.size)
    clear b9
    refine hK.out _ _ ?_ (fun hH4 => ?_)
    ·exact ⟨VA.1,VA.2.1,VA.2.2.1⟩
    clear hK K hH3
    (try simp only [Act.put,xL4,xL5,xL6])
    refine xT 5 (v := ?_) (hy := Or.inl ⟨by rfl,?_⟩) (h := ?_)
    rotate_left
    ·(intro w hSw; (try dsimp only at hSw); go_simp; (try with_reducible rfl))
    (try simp only [Act.put,xL4,xL5,xL6])
    refine xT 6 (v := ?_) (hy := Or.inl ⟨by rfl,?_⟩) (h := ?_)
    rotate_left
    ·(intro w hSw; (try dsimp only at hSw); go_simp; (try with_reducible rfl))
    (try simp only [Act.put,xL4,xL5,xL6])
    refine xT 7 (v := ?_) (hy := Or.inl ⟨by rfl,?_⟩) (h := ?_)
    rotate_left
    ·(intro w hSw; (try dsimp only at hSw); go_simp; (try with_reducible rfl))
    (try simp only [Act.put,xL4,xL5,xL6])
    refine xR [10] (h := ?_)
    refine xN (h := fun K hK => ?_)
    have hKp := VQ.keepJ (.bool pq) (.slice aq nq cq)
    have VA_n := VA.other2 (R := R24) (by omega) (.bool pq) (.slice aq nq cq)
    have VR_n := VR.other (R := R24) (by omega) (.bool pq) (.slice aq nq cq)
    have VM_n := VM.other (R := R24) (by omega) (.bool pq) (.slice aq nq cq)
    have VQ_n := VQ.same (.bool pq) (.slice aq nq cq)
    have hz_n := hz.keep hKp
    have hx_n := hx.keep hKp
    have h1_n := h1.keep hKp
    have hq_n := hq.keep hKp
    have hr_n := hr.keep hKp
    have BB_n := below_store2 (R := R24) BB (by omega) (.bool pq) (.slice aq nq cq)
    clear hKp
    obtain ⟨VQ_0,VQ_1,VQ_2,VQ_3⟩ := id VQ
    go_simp
    clear VQ_0 VQ_1 VQ_2 VQ_3
    clear BB hz hx h1 hq hr VA VR VQ VM
    generalize (w9.setCell ⟨R24,0,none⟩ (.bool pq)).setCell ⟨R24,1,none⟩ (.slice aq nq cq) = W29 at *
    have BB := BB_n
    have hz := hz_n
    have hx := hx_n
    have h1 := h1_n
    have hq := hq_n
    have hr := hr_n
    have VA := VA_n
    have VR := VR_n
    have VQ := VQ_n
    have VM := VM_n
    clear BB_n hz_n hx_n h1_n hq_n hr_n VA_n VR_n VQ_n VM_n
    refine hK.out _ _ ?_ (fun hH5 => ?_)
    ·exact ⟨VA.1,VA.2.1,VA.2.2.1⟩
    clear hK K hH4
    (try simp only [Act.put,xL4,xL5,xL6])
    refine xR [11] (h := ?_)
    refine xN (h := fun K hK => ?_)
    have hKp := VM.keepJ (.bool pr) (.slice ar nr cr)
    have VA_n := VA.other2 (R := R28) (by omega) (.bool pr) (.slice ar nr cr)
    have VR_n := VR.other (R := R28) (by omega) (.bool pr) (.slice ar nr cr)
    have VQ_n := VQ.other (R := R28) (by omega) (.bool pr) (.slice ar nr cr)
    have VM_n := VM.same (.bool pr) (.slice ar nr cr)
    have hz_n := hz.keep hKp
    have hx_n := hx.keep hKp
    have h1_n := h1.keep hKp
    have hq_n := hq.keep hKp
    have hr_n := hr.keep hKp
    have BB_n := below_store2 (R := R28) BB (by omega) (.bool pr) (.slice ar nr cr)
    clear hKp
    obtain ⟨VM_0,VM_1,VM_2,VM_3⟩ := id VM
    go_simp
    clear VM_0 VM_1 VM_2 VM_3
    clear BB hz hx h1 hq hr VA VR VQ VM
    generalize (W29.setCell ⟨R28,0,none⟩ (.bool pr)).setCell ⟨R28,1,none⟩ (.slice ar nr cr) = W30 at *
    have BB := BB_n
    have hz := hz_n
    have hx := hx_n
    have h1 := h1_n
    have hq := hq_n
    have hr := hr_n
    have VA := VA_n
    have VR := VR_n
    have VQ := VQ_n
    have VM := VM_n
    clear BB_n hz_n hx_n h1_n hq_n hr_n VA_n VR_n VQ_n VM_n
    refine hK.out _ _ ?_ (fun hH6 => ?_)
    ·exact ⟨VA.1,VA.2.1,VA.2.2.1⟩
    clear hK K hH5
    (try simp only [Act.put,xL4,xL5,xL6])
    refine wpAnyH_done (by kernel_rfl) ?_ _
    clear hH6
    have hKp := VR.keepJ (.bool pq) (.slice aq nq cq)
    have hz_n := hz.keep hKp
    have hx_n := hx.keep hKp
    have h1_n := h1.keep hKp
    have hq_n := hq.keep hKp
    have hr_n := hr.keep hKp
    have BB_n := below_store2 (R := w.heap.size + 1) BB (by omega) (.bool pq) (.slice aq nq cq)
    clear hKp
    obtain ⟨VQ_0,VQ_1,VQ_2,VQ_3⟩ := id VQ
    obtain ⟨q1,q2,q3,q4⟩ := id VR
    go_wp2
    (try simp only [Exit.inBlock,Exit.then])
    refine bodyPost_ret (v := .agg #[.bool pq,.slice aq nq cq]) (by simp [results,go_sem,q1,q2]) rfl ?_
    exact ⟨_,rfl,hq_n,BB_n⟩
   exact AllReadyH.nil
  refine xC (h := fun K hK => ?_) (hs := ?_)
  ·
   go_simp
   have hZ31 : w.heap.size ≤ W24.heap.size := BB.size
   have hN31VA : w.heap.size ≠ W24.heap.size := Nat.ne_of_lt VA.lt
   have hN31VR : w.heap.size + 1 ≠ W24.heap.size := Nat.ne_of_lt VR.lt
   have hN31VQ : R24 ≠ W24.heap.size := Nat.ne_of_lt VQ.lt
   obtain ⟨W31,hW31,hS31,hL31,VM⟩ := V2.lay W24 26 (.bool false) (.slice none 0 0)
   replace hz := hz.below hL31
   replace hx := hx.below hL31
   replace VA := VA.below hL31
   replace VR := VR.below hL31
   replace VQ := VQ.below hL31
   replace BB := BB.trans (hL31.mono BB.size)
   clear hL31
   rw [← hW31]
   generalize W24.heap.size = R31 at *
   clear hW31 hS31
   refine hK.out _ _ ?_ (fun hH2 => ?_)
   ·exact ⟨VA.1,VA.2.1,VA.2.2.1⟩
   clear hK K hH1
   (try simp only [Act.put,xL4,xL5,xL6])
   refine xR [3] (h := ?_)
   refine xN (h := fun K hK => ?_)
   go_simp
   refine (den_at p ao n c bo m d x _ hx).mono ?_
   rintro e w10 ⟨e1,rfl,h1,b10⟩
   go_wp2_with fail
   replace hz := hz.below b10
   replace hx := hx.below b10
   replace VA := VA.below b10
   replace VR := VR.below b10
   replace VQ := VQ.below b10
   replace VM := VM.below b10
   replace BB := BB.trans (b10.mono BB.size)
   clear b10
   refine hK.out _ _ ?_ (fun hH3 => ?_)
   ·exact ⟨VA.1,VA.2.1,VA.2.2.1⟩
   clear hK K hH2
   (try simp only [Act.put,xL4,xL5,xL6])
   refine xR [4] (h := ?_)
   refine xN (h := fun K hK => ?_)
   go_simp
   refine (rover_any _ _ z (x : Int) _ hz h1 (by omega) l3 l4).mono ?_
   rintro e w11 ⟨e2,e3,rfl,hq,hr,b11⟩
   obtain ⟨pq,aq,nq,cq,rfl⟩ := hq.open
   obtain ⟨pr,ar,nr,cr,rfl⟩ := hr.open
   go_wp2_with fail
   replace hz := hz.below b11
   replace hx := hx.below b11
   replace h1 := h1.below b11
   replace VA := VA.below b11
   replace VR := VR.below b11
   replace VQ := VQ.below b11
   replace VM := VM.below b11
   replace BB := BB.trans (b11.mono BB.size)
   clear b11
   refine hK.out _ _ ?_ (fun hH4 => ?_)
   ·exact ⟨VA.1,VA.2.1,VA.2.2.1⟩
   clear hK K hH3
   (try simp only [Act.put,xL4,xL5,xL6])
   refine xT 5 (v := ?_) (hy := Or.inl ⟨by rfl,?_⟩) (h := ?_)
   rotate_left
   ·(intro w hSw; (try dsimp only at hSw); go_simp; (try with_reducible rfl))
   (try simp only [Act.put,xL4,xL5,xL6])
   refine xT 6 (v := ?_) (hy := Or.inl ⟨by rfl,?_⟩) (h := ?_)
   rotate_left
   ·(intro w hSw; (try dsimp only at hSw); go_simp; (try with_reducible rfl))
   (try simp only [Act.put,xL4,xL5,xL6])
   refine xT 7 (v := ?_) (hy := Or.inl ⟨by rfl,?_⟩) (h := ?_)
   rotate_left
   ·(intro w hSw; (try dsimp only at hSw); go_simp; (try with_reducible rfl))
   (try simp only [Act.put,xL4,xL5,xL6])
   refine xR [10] (h := ?_)
   refine xN (h := fun K hK => ?_)
   have hKp := VQ.keepJ (.bool pq) (.slice aq nq cq)
   have VA_n := VA.other2 (R := R24) (by omega) (.bool pq) (.slice aq nq cq)
   have VR_n := VR.other (R := R24) (by omega) (.bool pq) (.slice aq nq cq)
   have VM_n := VM.other (R := R24) (by omega) (.bool pq) (.slice aq nq cq)
   have VQ_n := VQ.same (.bool pq) (.slice aq nq cq)
   have hz_n := hz.keep hKp
   have hx_n := hx.keep hKp
   have h1_n := h1.keep hKp
   have hq_n := hq.keep hKp
   have hr_n := hr.keep hKp
   have BB_n := below_store2 (R := R24) BB (by omega) (.bool pq) (.slice aq nq cq)
   clear hKp
   obtain ⟨VQ_0,VQ_1,VQ_2,VQ_3⟩ := id VQ
   go_simp
   clear VQ_0 VQ_1 VQ_2 VQ_3
   clear BB hz hx h1 hq hr VA VR VQ VM
   generalize (w11.setCell ⟨R24,0,none⟩ (.bool pq)).setCell ⟨R24,1,none⟩ (.slice aq nq cq) = W32 at *
   have BB := BB_n
   have hz := hz_n
   have hx := hx_n
   have h1 := h1_n
   have hq := hq_n
   have hr := hr_n
   have VA := VA_n
   have VR := VR_n
   have VQ := VQ_n
   have VM := VM_n
   clear BB_n hz_n hx_n h1_n hq_n hr_n VA_n VR_n VQ_n VM_n
   refine hK.out _ _ ?_ (fun hH5 => ?_)
   ·exact ⟨VA.1,VA.2.1,VA.2.2.1⟩
   clear hK K hH4
   (try simp only [Act.put,xL4,xL5,xL6])
   refine xR [11] (h := ?_)
   refine xN (h := fun K hK => ?_)
   have hKp := VM.keepJ (.bool pr) (.slice ar nr cr)
   have VA_n := VA.other2 (R := R31) (by omega) (.bool pr) (.slice ar nr cr)
   have VR_n := VR.other (R := R31) (by omega) (.bool pr) (.slice ar nr cr)
   have VQ_n := VQ.other (R := R31) (by omega) (.bool pr) (.slice ar nr cr)
   have VM_n := VM.same (.bool pr) (.slice ar nr cr)
   have hz_n := hz.keep hKp
   have hx_n := hx.keep hKp
   have h1_n := h1.keep hKp
   have hq_n := hq.keep hKp
   have hr_n := hr.keep hKp
   have BB_n := below_store2 (R := R31) BB (by omega) (.bool pr) (.slice ar nr cr)
   clear hKp
   obtain ⟨VM_0,VM_1,VM_2,VM_3⟩ := id VM
   go_simp
   clear VM_0 VM_1 VM_2 VM_3
   clear BB hz hx h1 hq hr VA VR VQ VM
   generalize (W32.setCell ⟨R31,0,none⟩ (.bool pr)).setCell ⟨R31,1,none⟩ (.slice ar nr cr) = W33 at *
   have BB := BB_n
   have hz := hz_n
   have hx := hx_n
   have h1 := h1_n
   have hq := hq_n
   have hr := hr_n
   have VA := VA_n
   have VR := VR_n
   have VQ := VQ_n
   have VM := VM_n
   clear BB_n hz_n hx_n h1_n hq_n hr_n VA_n VR_n VQ_n VM_n
   refine hK.out _ _ ?_ (fun hH6 => ?_)
   ·exact ⟨VA.1,VA.2.1,VA.2.2.1⟩
   clear hK K hH5
   (try simp only [Act.put,xL4,xL5,xL6])
   refine wpAnyH_done (by kernel_rfl) ?_ _
   clear hH6
   have hKp := VR.keepJ (.bool pq) (.slice aq nq cq)
   have hz_n := hz.keep hKp
   have hx_n := hx.keep hKp
   have h1_n := h1.keep hKp
   have hq_n := hq.keep hKp
   have hr_n := hr.keep hKp
   have BB_n := below_store2 (R := w.heap.size + 1) BB (by omega) (.bool pq) (.slice aq nq cq)
   clear hKp
   obtain ⟨VQ_0,VQ_1,VQ_2,VQ_3⟩ := id VQ
   obtain ⟨q1,q2,q3,q4⟩ := id VR
   go_wp2
   (try simp only [Exit.inBlock,Exit.then])
   refine bodyPost_ret (v := .agg #[.bool pq,.slice aq nq cq]) (by simp [results,go_sem,q1,q2]) rfl ?_
   exact ⟨_,rfl,hq_n,BB_n⟩
  exact AllReadyH.nil
 refine xC (h := fun K hK => ?_) (hs := ?_)
 ·
  go_simp
  have hZ34 : w.heap.size ≤ W1.heap.size := BB.size
  have hN34VA : w.heap.size ≠ W1.heap.size := Nat.ne_of_lt VA.lt
  have hN34VR : w.heap.size + 1 ≠ W1.heap.size := Nat.ne_of_lt VR.lt
  obtain ⟨W34,hW34,hS34,hL34,VM⟩ := V2.lay W1 26 (.bool false) (.slice none 0 0)
  replace hz := hz.below hL34
  replace hx := hx.below hL34
  replace VA := VA.below hL34
  replace VR := VR.below hL34
  replace BB := BB.trans (hL34.mono BB.size)
  clear hL34
  rw [← hW34]
  generalize W1.heap.size = R34 at *
  clear hW34 hS34
  refine hK.out _ _ ?_ (fun hH1 => ?_)
  ·exact ⟨VA.1,VA.2.1,VA.2.2.1⟩
  clear hK K hHeld
  (try simp only [Act.put,xL4,xL5,xL6])
  refine xR [3,8] (h := ?_)
  refine xC (h := fun K hK => ?_) (hs := ?_)
  ·
   go_simp
   refine (den_at p ao n c bo m d x _ hx).mono ?_
   rintro e w12 ⟨e1,rfl,h1,b12⟩
   go_wp2_with fail
   replace hz := hz.below b12
   replace hx := hx.below b12
   replace VA := VA.below b12
   replace VR := VR.below b12
   replace VM := VM.below b12
   replace BB := BB.trans (b12.mono BB.size)
   clear b12
   refine hK.out _ _ ?_ (fun hH2 => ?_)
   ·exact ⟨VA.1,VA.2.1,VA.2.2.1⟩
   clear hK K hH1
   (try simp only [Act.put,xL4,xL5,xL6])
   refine xR [4,8] (h := ?_)
   refine xC (h := fun K hK => ?_) (hs := ?_)
   ·
    go_simp
    refine (rover_any _ _ z (x : Int) _ hz h1 (by omega) l3 l4).mono ?_
    rintro e w13 ⟨e2,e3,rfl,hq,hr,b13⟩
    obtain ⟨pq,aq,nq,cq,rfl⟩ := hq.open
    obtain ⟨pr,ar,nr,cr,rfl⟩ := hr.open
    go_wp2_with fail
    replace hz := hz.below b13
    replace hx := hx.below b13
    replace h1 := h1.below b13
    replace VA := VA.below b13
    replace VR := VR.below b13
    replace VM := VM.below b13
    replace BB := BB.trans (b13.mono BB.size)
    clear b13
    refine hK.out _ _ ?_ (fun hH3 => ?_)
    ·exact ⟨VA.1,VA.2.1,VA.2.2.1⟩
    clear hK K hH2
    (try simp only [Act.put,xL4,xL5,xL6])
    refine xT 5 (v := ?_) (hy := Or.inl ⟨by rfl,?_⟩) (h := ?_)
    rotate_left
    ·(intro w hSw; (try dsimp only at hSw); go_simp; (try with_reducible rfl))
    (try simp only [Act.put,xL4,xL5,xL6])
    refine xT 6 (v := ?_) (hy := Or.inl ⟨by rfl,?_⟩) (h := ?_)
    rotate_left
    ·(intro w hSw; (try dsimp only at hSw); go_simp; (try with_reducible rfl))
    (try simp only [Act.put,xL4,xL5,xL6])
    refine xT 7 (v := ?_) (hy := Or.inl ⟨by rfl,?_⟩) (h := ?_)
    rotate_left
    ·(intro w hSw; (try dsimp only at hSw); go_simp; (try with_reducible rfl))
    (try simp only [Act.put,xL4,xL5,xL6])
    refine xR [8] (h := ?_)
    refine xN (h := fun K hK => ?_)
    go_simp
    have hZ35 : w.heap.size ≤ w13.heap.size := BB.size
    have hN35VA : w.heap.size ≠ w13.heap.size := Nat.ne_of_lt VA.lt
    have hN35VR : w.heap.size + 1 ≠ w13.heap.size := Nat.ne_of_lt VR.lt
    have hN35VM : R34 ≠ w13.heap.size := Nat.ne_of_lt VM.lt
    obtain ⟨W35,hW35,hS35,hL35,VQ⟩ := V2.lay w13 26 (.bool false) (.slice none 0 0)
    replace hz := hz.below hL35
    replace hx := hx.below hL35
    replace h1 := h1.below hL35
    replace hq := hq.below hL35
    replace hr := hr.below hL35
    replace VA := VA.below hL35
    replace VR := VR.below hL35
    replace VM := VM.below hL35
    replace BB := BB.trans (hL35.mono BB.size)
    clear hL35
    rw [← hW35]
    generalize w13.heap.size = R35 at *
    clear hW35 hS35
    refine hK.out _ _ ?_ (fun hH4 => ?_)
    ·exact ⟨VA.1,VA.2.1,VA.2.2.1⟩
    clear hK K hH3
    (try simp only [Act.put,xL4,xL5,xL6])
    refine xR [10] (h := ?_)
    refine xN (h := fun K hK => ?_)
    have hKp := VQ.keepJ (.bool pq) (.slice aq nq cq)
    have VA_n := VA.other2 (R := R35) (by omega) (.bool pq) (.slice aq nq cq)
    have VR_n := VR.other (R := R35) (by omega) (.bool pq) (.slice aq nq cq)
    have VM_n := VM.other (R := R35) (by omega) (.bool pq) (.slice aq nq cq)
    have VQ_n := VQ.same (.bool pq) (.slice aq nq cq)
    have hz_n := hz.keep hKp
    have hx_n := hx.keep hKp
    have h1_n := h1.keep hKp
    have hq_n := hq.keep hKp
    have hr_n := hr.keep hKp
    have BB_n := below_store2 (R := R35) BB (by omega) (.bool pq) (.slice aq nq cq)
    clear hKp
    obtain ⟨VQ_0,VQ_1,VQ_2,VQ_3⟩ := id VQ
    go_simp
    clear VQ_0 VQ_1 VQ_2 VQ_3
    clear BB hz hx h1 hq hr VA VR VM VQ
    generalize (W35.setCell ⟨R35,0,none⟩ (.bool pq)).setCell ⟨R35,1,none⟩ (.slice aq nq cq) = W36 at *
    have BB := BB_n
    have hz := hz_n
    have hx := hx_n
    have h1 := h1_n
    have hq := hq_n
    have hr := hr_n
    have VA := VA_n
    have VR := VR_n
    have VM := VM_n
    have VQ := VQ_n
    clear BB_n hz_n hx_n h1_n hq_n hr_n VA_n VR_n VM_n VQ_n
    refine hK.out _ _ ?_ (fun hH5 => ?_)
    ·exact ⟨VA.1,VA.2.1,VA.2.2.1⟩
    clear hK K hH4
    (try simp only [Act.put,xL4,xL5,xL6])
    refine xR [11] (h := ?_)
    refine xN (h := fun K hK => ?_)
    have hKp := VM.keepJ (.bool pr) (.slice ar nr cr)
    have VA_n := VA.other2 (R := R34) (by omega) (.bool pr) (.slice ar nr cr)
    have VR_n := VR.other (R := R34) (by omega) (.bool pr) (.slice ar nr cr)
    have VQ_n := VQ.other (R := R34) (by omega) (.bool pr) (.slice ar nr cr)
    have VM_n := VM.same (.bool pr) (.slice ar nr cr)
    have hz_n := hz.keep hKp
    have hx_n := hx.keep hKp
    have h1_n := h1.keep hKp
    have hq_n := hq.keep hKp
    have hr_n := hr.keep hKp
    have BB_n := below_store2 (R := R34) BB (by omega) (.bool pr) (.slice ar nr cr)
    clear hKp
    obtain ⟨VM_0,VM_1,VM_2,VM_3⟩ := id VM
    go_simp
    clear VM_0 VM_1 VM_2 VM_3
    clear BB hz hx h1 hq hr VA VR VM VQ
    generalize (W36.setCell ⟨R34,0,none⟩ (.bool pr)).setCell ⟨R34,1,none⟩ (.slice ar nr cr) = W37 at *
    have BB := BB_n
    have hz := hz_n
    have hx := hx_n
    have h1 := h1_n
    have hq := hq_n
    have hr := hr_n
    have VA := VA_n
    have VR := VR_n
    have VM := VM_n
    have VQ := VQ_n
    clear BB_n hz_n hx_n h1_n hq_n hr_n VA_n VR_n VM_n VQ_n
    refine hK.out _ _ ?_ (fun hH6 => ?_)
    ·exact ⟨VA.1,VA.2.1,VA.2.2.1⟩
    clear hK K hH5
    (try simp only [Act.put,xL4,xL5,xL6])
    refine wpAnyH_done (by kernel_rfl) ?_ _
    clear hH6
    have hKp := VR.keepJ (.bool pq) (.slice aq nq cq)
    have hz_n := hz.keep hKp
    have hx_n := hx.keep hKp
    have h1_n := h1.keep hKp
    have hq_n := hq.keep hKp
    have hr_n := hr.keep hKp
    have BB_n := below_store2 (R := w.heap.size + 1) BB (by omega) (.bool pq) (.slice aq nq cq)
    clear hKp
    obtain ⟨VQ_0,VQ_1,VQ_2,VQ_3⟩ := id VQ
    obtain ⟨q1,q2,q3,q4⟩ := id VR
    go_wp2
    (try simp only [Exit.inBlock,Exit.then])
    refine bodyPost_ret (v := .agg #[.bool pq,.slice aq nq cq]) (by simp [results,go_sem,q1,q2]) rfl ?_
    exact ⟨_,rfl,hq_n,BB_n⟩
   refine xC (h := fun K hK => ?_) (hs := ?_)
   ·
    go_simp
    have hZ38 : w.heap.size ≤ w12.heap.size := BB.size
    have hN38VA : w.heap.size ≠ w12.heap.size := Nat.ne_of_lt VA.lt
    have hN38VR : w.heap.size + 1 ≠ w12.heap.size := Nat.ne_of_lt VR.lt
    have hN38VM : R34 ≠ w12.heap.size := Nat.ne_of_lt VM.lt
    obtain ⟨W38,hW38,hS38,hL38,VQ⟩ := V2.lay w12 26 (.bool false) (.slice none 0 0)
    replace hz := hz.below hL38
    replace hx := hx.below hL38
    replace h1 := h1.below hL38
    replace VA := VA.below hL38
    replace VR := VR.below hL38
    replace VM := VM.below hL38
    replace BB := BB.trans (hL38.mono BB.size)
    clear hL38
    rw [← hW38]
    generalize w12.heap.size = R38 at *
    clear hW38 hS38
    refine hK.out _ _ ?_ (fun hH3 => ?_)
    ·exact ⟨VA.1,VA.2.1,VA.2.2.1⟩
    clear hK K hH2
    (try simp only [Act.put,xL4,xL5,xL6])
    refine xR [4] (h := ?_)
    refine xN (h := fun K hK => ?_)
    go_simp
    refine (rover_any _ _ z (x : Int) _ hz h1 (by omega) l3 l4).mono ?_
    rintro e w14 ⟨e2,e3,rfl,hq,hr,b14⟩
    obtain ⟨pq,aq,nq,cq,rfl⟩ := hq.open
    obtain ⟨pr,ar,nr,cr,rfl⟩ := hr.open
    go_wp2_with fail
    replace hz := hz.below b14
    replace hx := hx.below b14
    replace h1 := h1.below b14
    replace VA := VA.below b14
    replace VR := VR.below b14
    replace VM := VM.below b14
    replace VQ := VQ.below b14
    replace BB := BB.trans (b14.mono BB.size)
    clear b14
    refine hK.out _ _ ?_ (fun hH4 => ?_)
    ·exact ⟨VA.1,VA.2.1,VA.2.2.1⟩
    clear hK K hH3
    (try simp only [Act.put,xL4,xL5,xL6])
    refine xT 5 (v := ?_) (hy := Or.inl ⟨by rfl,?_⟩) (h := ?_)
    rotate_left
    ·(intro w hSw; (try dsimp only at hSw); go_simp; (try with_reducible rfl))
    (try simp only [Act.put,xL4,xL5,xL6])
    refine xT 6 (v := ?_) (hy := Or.inl ⟨by rfl,?_⟩) (h := ?_)
    rotate_left
    ·(intro w hSw; (try dsimp only at hSw); go_simp; (try with_reducible rfl))
    (try simp only [Act.put,xL4,xL5,xL6])
    refine xT 7 (v := ?_) (hy := Or.inl ⟨by rfl,?_⟩) (h := ?_)
    rotate_left
    ·(intro w hSw; (try dsimp only at hSw); go_simp; (try with_reducible rfl))
    (try simp only [Act.put,xL4,xL5,xL6])
    refine xR [10] (h := ?_)
    refine xN (h := fun K hK => ?_)
    have hKp := VQ.keepJ (.bool pq) (.slice aq nq cq)
    have VA_n := VA.other2 (R := R38) (by omega) (.bool pq) (.slice aq nq cq)
    have VR_n := VR.other (R := R38) (by omega) (.bool pq) (.slice aq nq cq)
    have VM_n := VM.other (R := R38) (by omega) (.bool pq) (.slice aq nq cq)
    have VQ_n := VQ.same (.bool pq) (.slice aq nq cq)
    have hz_n := hz.keep hKp
    have hx_n := hx.keep hKp
    have h1_n := h1.keep hKp
    have hq_n := hq.keep hKp
    have hr_n := hr.keep hKp
    have BB_n := below_store2 (R := R38) BB (by omega) (.bool pq) (.slice aq nq cq)
    clear hKp
    obtain ⟨VQ_0,VQ_1,VQ_2,VQ_3⟩ := id VQ
    go_simp
    clear VQ_0 VQ_1 VQ_2 VQ_3
    clear BB hz hx h1 hq hr VA VR VM VQ
    generalize (w14.setCell ⟨R38,0,none⟩ (.bool pq)).setCell ⟨R38,1,none⟩ (.slice aq nq cq) = W39 at *
    have BB := BB_n
    have hz := hz_n
    have hx := hx_n
    have h1 := h1_n
    have hq := hq_n
    have hr := hr_n
    have VA := VA_n
    have VR := VR_n
    have VM := VM_n
    have VQ := VQ_n
    clear BB_n hz_n hx_n h1_n hq_n hr_n VA_n VR_n VM_n VQ_n
    refine hK.out _ _ ?_ (fun hH5 => ?_)
    ·exact ⟨VA.1,VA.2.1,VA.2.2.1⟩
    clear hK K hH4
    (try simp only [Act.put,xL4,xL5,xL6])
    refine xR [11] (h := ?_)
    refine xN (h := fun K hK => ?_)
    have hKp := VM.keepJ (.bool pr) (.slice ar nr cr)
    have VA_n := VA.other2 (R := R34) (by omega) (.bool pr) (.slice ar nr cr)
    have VR_n := VR.other (R := R34) (by omega) (.bool pr) (.slice ar nr cr)
    have VQ_n := VQ.other (R := R34) (by omega) (.bool pr) (.slice ar nr cr)
    have VM_n := VM.same (.bool pr) (.slice ar nr cr)
    have hz_n := hz.keep hKp
    have hx_n := hx.keep hKp
    have h1_n := h1.keep hKp
    have hq_n := hq.keep hKp
    have hr_n := hr.keep hKp
    have BB_n := below_store2 (R := R34) BB (by omega) (.bool pr) (.slice ar nr cr)
    clear hKp
    obtain ⟨VM_0,VM_1,VM_2,VM_3⟩ := id VM
    go_simp
    clear VM_0 VM_1 VM_2 VM_3
    clear BB hz hx h1 hq hr VA VR VM VQ
    generalize (W39.setCell ⟨R34,0,none⟩ (.bool pr)).setCell ⟨R34,1,none⟩ (.slice ar nr cr) = W40 at *
    have BB := BB_n
    have hz := hz_n
    have hx := hx_n
    have h1 := h1_n
    have hq := hq_n
    have hr := hr_n
    have VA := VA_n
    have VR := VR_n
    have VM := VM_n
    have VQ := VQ_n
    clear BB_n hz_n hx_n h1_n hq_n hr_n VA_n VR_n VM_n VQ_n
    refine hK.out _ _ ?_ (fun hH6 => ?_)
    ·exact ⟨VA.1,VA.2.1,VA.2.2.1⟩
    clear hK K hH5
    (try simp only [Act.put,xL4,xL5,xL6])
    refine wpAnyH_done (by kernel_rfl) ?_ _
    clear hH6
    have hKp := VR.keepJ (.bool pq) (.slice aq nq cq)
    have hz_n := hz.keep hKp
    have hx_n := hx.keep hKp
    have h1_n := h1.keep hKp
    have hq_n := hq.keep hKp
    have hr_n := hr.keep hKp
    have BB_n := below_store2 (R := w.heap.size + 1) BB (by omega) (.bool pq) (.slice aq nq cq)
    clear hKp
    obtain ⟨VQ_0,VQ_1,VQ_2,VQ_3⟩ := id VQ
    obtain ⟨q1,q2,q3,q4⟩ := id VR
    go_wp2
    (try simp only [Exit.inBlock,Exit.then])
    refine bodyPost_ret (v := .agg #[.bool pq,.slice aq nq cq]) (by simp [results,go_sem,q1,q2]) rfl ?_
    exact ⟨_,rfl,hq_n,BB_n⟩
   exact AllReadyH.nil
  refine xC (h := fun K hK => ?_) (hs := ?_)
  ·
   go_simp
   have hZ41 : w.heap.size ≤ W34.heap.size := BB.size
   have hN41VA : w.heap.size ≠ W34.heap.size := Nat.ne_of_lt VA.lt
   have hN41VR : w.heap.size + 1 ≠ W34.heap.size := Nat.ne_of_lt VR.lt
   have hN41VM : R34 ≠ W34.heap.size := Nat.ne_of_lt VM.lt
   obtain ⟨W41,hW41,hS41,hL41,VQ⟩ := V2.lay W34 26 (.bool false) (.slice none 0 0)
   replace hz := hz.below hL41
   replace hx := hx.below hL41
   replace VA := VA.below hL41
   replace VR := VR.below hL41
   replace VM := VM.below hL41
   replace BB := BB.trans (hL41.mono BB.size)
   clear hL41
   rw [← hW41]
   generalize W34.heap.size = R41 at *
   clear hW41 hS41
   refine hK.out _ _ ?_ (fun hH2 => ?_)
   ·exact ⟨VA.1,VA.2.1,VA.2.2.1⟩
   clear hK K hH1
   (try simp only [Act.put,xL4,xL5,xL6])
   refine xR [3] (h := ?_)
   refine xN (h := fun K hK => ?_)
   go_simp
   refine (den_at p ao n c bo m d x _ hx).mono ?_
   rintro e w15 ⟨e1,rfl,h1,b15⟩
   go_wp2_with fail
   replace hz := hz.below b15
   replace hx := hx.below b15
   replace VA := VA.below b15
   replace VR := VR.below b15
   replace VM := VM.below b15
   replace VQ := VQ.below b15
   replace BB := BB.trans (b15.mono BB.size)
   clear b15
   refine hK.out _ _ ?_ (fun hH3 => ?_)
   ·exact ⟨VA.1,VA.2.1,VA.2.2.1⟩
   clear hK K hH2
   (try simp only [Act.put,xL4,xL5,xL6])
   refine xR [4] (h := ?_)
   refine xN (h := fun K hK => ?_)
   go_simp
   refine (rover_any _ _ z (x : Int) _ hz h1 (by omega) l3 l4).mono ?_
   rintro e w16 ⟨e2,e3,rfl,hq,hr,b16⟩
   obtain ⟨pq,aq,nq,cq,rfl⟩ := hq.open
   obtain ⟨pr,ar,nr,cr,rfl⟩ := hr.open
   go_wp2_with fail
   replace hz := hz.below b16
   replace hx := hx.below b16
   replace h1 := h1.below b16
   replace VA := VA.below b16
   replace VR := VR.below b16
   replace VM := VM.below b16
   replace VQ := VQ.below b16
   replace BB := BB.trans (b16.mono BB.size)
   clear b16
   refine hK.out _ _ ?_ (fun hH4 => ?_)
   ·exact ⟨VA.1,VA.2.1,VA.2.2.1⟩
   clear hK K hH3
   (try simp only [Act.put,xL4,xL5,xL6])
   refine xT 5 (v := ?_) (hy := Or.inl ⟨by rfl,?_⟩) (h := ?_)
   rotate_left
   ·(intro w hSw; (try dsimp only at hSw); go_simp; (try with_reducible rfl))
   (try simp only [Act.put,xL4,xL5,xL6])
   refine xT 6 (v := ?_) (hy := Or.inl ⟨by rfl,?_⟩) (h := ?_)
   rotate_left
   ·(intro w hSw; (try dsimp only at hSw); go_simp; (try with_reducible rfl))
   (try simp only [Act.put,xL4,xL5,xL6])
   refine xT 7 (v := ?_) (hy := Or.inl ⟨by rfl,?_⟩) (h := ?_)
   rotate_left
   ·(intro w hSw; (try dsimp only at hSw); go_simp; (try with_reducible rfl))
   (try simp only [Act.put,xL4,xL5,xL6])
   refine xR [10] (h := ?_)
   refine xN (h := fun K hK => ?_)
   have hKp := VQ.keepJ (.bool pq) (.slice aq nq cq)
   have VA_n := VA.other2 (R := R41) (by omega) (.bool pq) (.slice aq nq cq)
   have VR_n := VR.other (R := R41) (by omega) (.bool pq) (.slice aq nq cq)
   have VM_n := VM.other (R := R41) (by omega) (.bool pq) (.slice aq nq cq)
   have VQ_n := VQ.same (.bool pq) (.slice aq nq cq)
   have hz_n := hz.keep hKp
   have hx_n := hx.keep hKp
   have h1_n := h1.keep hKp
   have hq_n := hq.keep hKp
   have hr_n := hr.keep hKp
   have BB_n := below_store2 (R := R41) BB (by omega) (.bool pq) (.slice aq nq cq)
   clear hKp
   obtain ⟨VQ_0,VQ_1,VQ_2,VQ_3⟩ := id VQ
   go_simp
   clear VQ_0 VQ_1 VQ_2 VQ_3
   clear BB hz hx h1 hq hr VA VR VM VQ
   generalize (w16.setCell ⟨R41,0,none⟩ (.bool pq)).setCell ⟨R41,1,none⟩ (.slice aq nq cq) = W42 at *
   have BB := BB_n
   have hz := hz_n
   have hx := hx_n
   have h1 := h1_n
   have hq := hq_n
   have hr := hr_n
   have VA := VA_n
   have VR := VR_n
   have VM := VM_n
   have VQ := VQ_n
   clear BB_n hz_n hx_n h1_n hq_n hr_n VA_n VR_n VM_n VQ_n
   refine hK.out _ _ ?_ (fun hH5 => ?_)
   ·exact ⟨VA.1,VA.2.1,VA.2.2.1⟩
   clear hK K hH4
   (try simp only [Act.put,xL4,xL5,xL6])
   refine xR [11] (h := ?_)
   refine xN (h := fun K hK => ?_)
   have hKp := VM.keepJ (.bool pr) (.slice ar nr cr)
   have VA_n := VA.other2 (R := R34) (by omega) (.bool pr) (.slice ar nr cr)
   have VR_n := VR.other (R := R34) (by omega) (.bool pr) (.slice ar nr cr)
   have VQ_n := VQ.other (R := R34) (by omega) (.bool pr) (.slice ar nr cr)
   have VM_n := VM.same (.bool pr) (.slice ar nr cr)
   have hz_n := hz.keep hKp
   have hx_n := hx.keep hKp
   have h1_n := h1.keep hKp
   have hq_n := hq.keep hKp
   have hr_n := hr.keep hKp
   have BB_n := below_store2 (R := R34) BB (by omega) (.bool pr) (.slice ar nr cr)
   clear hKp
   obtain ⟨VM_0,VM_1,VM_2,VM_3⟩ := id VM
   go_simp
   clear VM_0 VM_1 VM_2 VM_3
   clear BB hz hx h1 hq hr VA VR VM VQ
   generalize (W42.setCell ⟨R34,0,none⟩ (.bool pr)).setCell ⟨R34,1,none⟩ (.slice ar nr cr) = W43 at *
   have BB := BB_n
   have hz := hz_n
   have hx := hx_n
   have h1 := h1_n
   have hq := hq_n
   have hr := hr_n
   have VA := VA_n
   have VR := VR_n
   have VM := VM_n
   have VQ := VQ_n
   clear BB_n hz_n hx_n h1_n hq_n hr_n VA_n VR_n VM_n VQ_n
   refine hK.out _ _ ?_ (fun hH6 => ?_)
   ·exact ⟨VA.1,VA.2.1,VA.2.2.1⟩
   clear hK K hH5
   (try simp only [Act.put,xL4,xL5,xL6])
   refine wpAnyH_done (by kernel_rfl) ?_ _
   clear hH6
   have hKp := VR.keepJ (.bool pq) (.slice aq nq cq)
   have hz_n := hz.keep hKp
   have hx_n := hx.keep hKp
   have h1_n := h1.keep hKp
   have hq_n := hq.keep hKp
   have hr_n := hr.keep hKp
   have BB_n := below_store2 (R := w.heap.size + 1) BB (by omega) (.bool pq) (.slice aq nq cq)
   clear hKp
   obtain ⟨VQ_0,VQ_1,VQ_2,VQ_3⟩ := id VQ
   obtain ⟨q1,q2,q3,q4⟩ := id VR
   go_wp2
   (try simp only [Exit.inBlock,Exit.then])
   refine bodyPost_ret (v := .agg #[.bool pq,.slice aq nq cq]) (by simp [results,go_sem,q1,q2]) rfl ?_
   exact ⟨_,rfl,hq_n,BB_n⟩
  exact AllReadyH.nil
 exact AllReadyH.nil

end Go.Proofs.YthlogenaienkhaaGreatDoor

/-
 What ratio's Fold answers: whole parts,one inside the other; what they are.
-/
namespace Go.Proofs.YthlogenaienkhaaGreatDoor
open Go.RowKit
set_option linter.unusedVariables false
set_option linter.unusedSimpArgs false

/-- The whole parts of d / r, one inside the other. -/
def foldN : Nat → Nat → Nat → List Nat
 | 0,_,_ => []
 | k + 1,d,r => if r = 0 then [] else d / r :: foldN k r (d % r)
theorem fold_fuel : ∀ (k j d r : Nat),r ≤ k → r ≤ j → foldN k d r = foldN j d r
 | 0,0,d,r,_,_ => rfl
 | 0,j + 1,d,r,h,_ => by
  obtain rfl : r = 0 := by omega
  show [] = foldN (j + 1) d 0
  unfold foldN; rw [if_pos rfl]
 | k + 1,0,d,r,_,h => by
  obtain rfl : r = 0 := by omega
  show foldN (k + 1) d 0 = []
  unfold foldN; rw [if_pos rfl]
 | k + 1,j + 1,d,r,h1,h2 => by
  show (if r = 0 then [] else d / r :: foldN k r (d % r)) = (if r = 0 then [] else d / r :: foldN j r (d % r))
  by_cases h : r = 0
  ·rw [if_pos h,if_pos h]
  ·have := Nat.mod_lt d (show 0 < r by omega)
   rw [if_neg h,if_neg h,fold_fuel k j r (d % r) (by omega) (by omega)]
theorem fold_step (d r : Nat) (h : r ≠ 0) : foldN r d r = d / r :: foldN (d % r) r (d % r) := by
 obtain ⟨k,rfl⟩ : ∃ k,r = k + 1 := ⟨r - 1,by omega⟩
 have := Nat.mod_lt d (show 0 < k + 1 by omega)
 show (if k + 1 = 0 then [] else d / (k + 1) :: foldN k (k + 1) (d % (k + 1))) = _
 rw [if_neg h,fold_fuel k (d % (k + 1)) (k + 1) (d % (k + 1)) (by omega) (Nat.le_refl _)]
theorem fold_len : ∀ (k d r : Nat),r < 2 ^ k → (foldN r d r).length ≤ 2 * k
 | 0,d,r,h => by
  obtain rfl : r = 0 := by simpa using h
  show ([] : List Nat).length ≤ 0; simp
 | k + 1,d,r,h => by
  by_cases h0 : r = 0
  ·subst h0; show ([] : List Nat).length ≤ _; simp
  ·rw [fold_step d r h0]
   have h1 := Nat.mod_lt d (show 0 < r by omega)
   generalize d % r = s at *
   by_cases h2 : s = 0
   ·subst h2; show ([d / r] : List Nat).length ≤ _; simp; omega
   ·rw [fold_step r s h2]
    have h3 := Nat.mod_lt r (show 0 < s by omega)
    have h4 : r % s < 2 ^ k := by
     have h5 := Nat.div_add_mod r s
     have h6 : 1 ≤ r / s := Nat.div_pos (by omega) (by omega)
     have h7 : s * 1 ≤ s * (r / s) := Nat.mul_le_mul_left s h6
     rw [Nat.pow_succ] at h
     omega
    have := fold_len k s (r % s) h4
    simp only [List.length_cons]; omega
theorem lt_two_nl (s L : Nat) (h : nl W32 s ≤ L) : s < 2 ^ (32 * L) := by
 have h1 := lt_pow_nl W32 s (by decide)
 have h2 : W32 ^ nl W32 s ≤ W32 ^ L := Nat.pow_le_pow_right (by decide) h
 have h3 : W32 ^ L = 2 ^ (32 * L) := by rw [Nat.pow_mul]
 omega
/-- The list of whole parts: the first, and those of the rest. -/
def foldZ (f : Int) (l : List Nat) (i : Nat) : Int := if i = 0 then f else ((l.getD (i - 1) 0 : Nat) : Int)
theorem foldZ_mid (f : Int) (acc rest : List Nat) (x : Nat) : foldZ f (acc ++ x :: rest) (acc.length + 1) = (x : Int) := by
 unfold foldZ; rw [if_neg (by omega),Nat.add_sub_cancel,getD_mid]
theorem own_first {B k : Nat} {e : TypeId} {w : World} {g n cap : Nat} {us : List Value} {x y : Value} (h : w.ownsRow B e k (.slice (some ⟨g,0,none⟩) n cap) n us) (hl : 2 ≤ us.length) (hE : E2 w g 0 x y) : us[0]? = some x ∧ us[1]? = some y := by
 have h0 : us[0]? = some us[0] := List.getElem?_eq_getElem (by omega)
 have h1 : us[1]? = some us[1] := List.getElem?_eq_getElem (by omega)
 have c0 := (owns_cell h h0).symm.trans hE.1
 have c1 := (owns_cell h h1).symm.trans hE.2
 rw [h0,h1]; exact ⟨c0,c1⟩
/-- What Fold answers. -/
def FoldOut (q : Rat) (L : Nat) (w : World) (e : Ending) (w' : World) : Prop :=
 ∃ r d s b cp p ao n c,e = .returned r ∧ r = .slice (some ⟨b,0,none⟩) ((foldN s d s).length + 1) cp ∧ E2 w' b 0 (.bool p) (.slice ao n c) ∧ RepI w' (.agg #[.bool p,.slice ao n c]) q.floor ∧ IRow w' r ((foldN s d s).length + 1) (foldZ q.floor (foldN s d s)) (L + 1) ∧ s < d ∧ nl W32 s ≤ L ∧ q = (q.floor : Rat) + mkRat s d ∧ Below w.heap.size w w'
theorem mkRat_floor (z : Int) (x : Nat) (hx : 0 < x) : mkRat z x = ((mkRat z x).floor : Rat) + mkRat (z.fmod (x : Int)).natAbs x := by
 rw [floor_mkRat z x hx]
 have h0 : 0 ≤ z.fmod (x : Int) := Int.fmod_nonneg_of_pos z (by omega)
 have h1 : ((z.fmod (x : Int)).natAbs : Int) = z.fmod (x : Int) := by omega
 rw [h1]
 have h2 := Int.mul_fdiv_add_fmod z (x : Int)
 generalize z.fdiv (x : Int) = a at *
 generalize z.fmod (x : Int) = b at *
 rw [Rat.mkRat_eq_div,Rat.mkRat_eq_div,← h2,Rat.intCast_add,Rat.intCast_mul]
 have hx' : ((x : Nat) : Rat) ≠ 0 := fun e => by have := Rat.natCast_eq_zero_iff.1 e; omega
 rw [Rat.intCast_natCast]
 generalize ((x : Nat) : Rat) = X at *
 grind


set_option maxRecDepth 20000 in
set_option maxHeartbeats 4000000 in
theorem fold_at (v : Value) (q : Rat) (L : Nat) (w : World) (hv : RatAt w v q L) (hL : 1 ≤ L) (hM : L ≤ 1000) :
  Calls Tryz.prog 27 #[v] w fun e w' => FoldOut q L w e w' := by
 obtain ⟨p,ao,n,c,bo,m,d,rfl⟩ := hv.open
 have BB : Below w.heap.size w w := Below.refl _ _
 obtain ⟨Wb0,hW0,hS0,hL0,VA⟩ := V3.lay w 35 (.bool p) (.slice ao n c) (.slice bo m d)
 replace hv := hv.below hL0
 replace BB := BB.trans (hL0.mono BB.size)
 clear hL0
 go_enter Tryz.func27,Tryz.ntmps27
 go_wp2_with fail
 rw [← hW0]
 clear hW0 hS0
 refine (parts_at _ q L _ hv hL).mono ?_
 rintro e w1 ⟨u1,s1,z,x,rfl,hz,hx,hx0,hq,b1⟩
 replace hv := hv.below b1
 replace VA := VA.below b1
 replace BB := BB.trans (b1.mono BB.size)
 clear b1
 have HQ : Hid (q = mkRat z x) := hq
 clear hq
 obtain ⟨p1,a1,n1,c1,rfl⟩ := hz.open
 have hZ1 : w.heap.size ≤ w1.heap.size := BB.size
 have hN1VA : w.heap.size ≠ w1.heap.size := Nat.ne_of_lt VA.lt
 obtain ⟨W1,hW1,hS1,hL1,VN⟩ := V2.lay w1 33 (.bool p1) (.slice a1 n1 c1)
 replace hv := hv.below hL1
 replace hz := hz.below hL1
 replace hx := hx.below hL1
 replace VA := VA.below hL1
 replace BB := BB.trans (hL1.mono BB.size)
 clear hL1
 go_wp2_with fail
 rw [← hW1]
 generalize w1.heap.size = R1 at *
 clear hW1 hS1
 refine (divide_at _ _ z x L L _ hz hx (by omega) hx0).mono ?_
 rintro e w2 ⟨r2,s2,rfl,h2,h3,b2⟩
 replace hv := hv.below b2
 replace hz := hz.below b2
 replace hx := hx.below b2
 replace VA := VA.below b2
 replace VN := VN.below b2
 replace BB := BB.trans (b2.mono BB.size)
 clear b2
 obtain ⟨p2,a2,n2,c2,rfl⟩ := h2.open
 have HF : Hid (q.floor = z.fdiv (x : Int)) := by show _ = _; rw [HQ.out]; exact floor_mkRat z x hx0
 have HR : Hid (q = (q.floor : Rat) + mkRat (z.fmod (x : Int)).natAbs x) := by show _ = _; rw [HQ.out]; exact mkRat_floor z x hx0
 have hml : (z.fmod (x : Int)).natAbs < x := by have h0 := Int.fmod_nonneg_of_pos z (show (0 : Int) < (x : Int) by omega); have h1 := Int.fmod_lt_of_pos z (show (0 : Int) < (x : Int) by omega); omega
 have lx := hx.nl
 have lr := nl_mono W32 _ _ (by decide) (Nat.le_of_lt hml)
 have lq : nl W32 q.floor.natAbs ≤ L + 1 := by rw [HF.out]; exact fdiv_nl _ _ _ hz.nl
 rw [← HF.out] at h2
 replace h3 := h3.at L (by omega)
 generalize (z.fmod (x : Int)).natAbs = s at *
 clear HF HQ hz
 obtain ⟨Wq,hWq,hSq,hLq,VQ⟩ := V2.lay w2 33 (.bool p2) (.slice a2 n2 c2)
 obtain ⟨Ws,hWs,hSs,hLs,VS⟩ := V2.lay Wq 33 (.bool p2) (.slice a2 n2 c2)
 have hb1 : w.heap.size ≤ Wq.heap.size := by have := BB.size; omega
 have O1 : Ws.ownsRow w.heap.size 33 2 (.slice (some ⟨Wq.heap.size,0,none⟩) 1 1) 1 [.bool p2,.slice a2 n2 c2] := by rw [hWs]; exact owns_new Wq _ 2 _ #[.bool p2,.slice a2 n2 c2] hb1 rfl
 have P1 : PureB IsNum Ws Wq.heap.size := by rw [hWs]; exact pure_of_cells (heap_alloc_new _ _) (by simp [num_slice,num_bool])
 replace h2 := (h2.below hLq).below hLs
 replace h3 := (h3.below hLq).below hLs
 replace hx := (hx.below hLq).below hLs
 replace BB := (BB.trans (hLq.mono BB.size))
 replace BB := BB.trans (hLs.mono BB.size)
 have O : IOwn w.heap.size Ws (.slice (some ⟨Wq.heap.size,0,none⟩) 1 1) 1 (foldZ q.floor (foldN s x s)) (L + 1) := ⟨_,fun _ j => if j = 0 then .bool p2 else .slice a2 n2 c2,O1,fun g hg => by simp only [Value.ownBlock,Option.some.injEq] at hg; subst hg; exact P1,fun i hi j hj => by obtain rfl : i = 0 := (by omega); rcases (show j = 0 ∨ j = 1 by omega) with rfl | rfl <;> rfl,fun i hi => by obtain rfl : i = 0 := (by omega); exact h2.at (L + 1) lq⟩
 rw [hSq] at O
 go_wp2
 rw [← hWq,← hWs]
 have F0 : E2 Ws (w2.heap.size + 1) 0 (.bool p2) (.slice a2 n2 c2) := by rw [← hSq]; exact ⟨VS.1,VS.2.1⟩
 clear hWs hWq VQ VS hLq hLs O1 P1 VA VN
 obtain ⟨tot,htot⟩ : ∃ tot,tot = foldN s x s := ⟨_,rfl⟩
 have HT : Hid (tot = [] ++ foldN s x s) := by show _ = _; rw [htot]; rfl
 have HTT : Hid (foldN s x s = tot) := htot.symm
 rw [← htot] at O
 clear htot
 have hx1 : s < x := hml
 obtain ⟨fl,hfl⟩ : ∃ fl,fl = q.floor := ⟨_,rfl⟩
 rw [← hfl] at O h2
 have HFL : Hid (fl = q.floor) := hfl
 clear hfl
 have hlen : tot.length ≤ 1000000 := by rw [← HTT.out]; exact Nat.le_trans (fold_len (32 * L) x s (lt_two_nl s L (by omega))) (by omega)
 go_loopg [4,6,7] s (fun k a b o wr => ∃ (d r : Nat) (acc : List Nat),k = r ∧ NatAt wr a d L ∧ NatAt wr b r L ∧ r < d ∧ Hid (tot = acc ++ foldN r d r) ∧ IOwn w.heap.size wr o (acc.length + 1) (foldZ fl tot) (L + 1) ∧ (∃ g cp,o = .slice (some ⟨g,0,none⟩) (acc.length + 1) cp ∧ E2 wr g 0 (.bool p2) (.slice a2 n2 c2)) ∧ RepI wr (.agg #[.bool p2,.slice a2 n2 c2]) fl ∧ Below w.heap.size w wr)
 case atStart => exact ⟨x,s,[],rfl,hx,h3,hml,HT,O,⟨_,_,rfl,F0⟩,h2,BB⟩
 case round =>
  clear hx h3 HT O BB hml F0 h2
  obtain ⟨d,r,acc,hk,h1,h2,hrd,HT,O,⟨gF,cF,ho7,hF⟩,hI,BB⟩ := hrel
  have HK : Hid (gk = r) := hk
  clear hk
  have l1 := h1.nl
  have l2 := h2.nl
  go_wp2_with fail
  refine (nzero_at _ r L _ h2).mono ?_
  rintro e wx ⟨rfl,hwx⟩
  replace hwx := hwx.symm
  subst hwx
  by_cases hr0 : r = 0
  ·have HO7 : Hid (u7 = .slice (some ⟨gF,0,none⟩) (acc.length + 1) cF) := ho7
   clear ho7
   rw [decide_eq_true hr0]
   have hta : tot = acc := by have := HT.out; rw [hr0] at this; rw [this]; show acc ++ [] = acc; simp
   subst hta
   have R5 := O.row
   go_wp2
   go_ret
   rw [← HTT.out,HFL.out] at R5
   have hlt : tot.length = (foldN s x s).length := by rw [HTT.out]
   rw [HFL.out] at hI
   exact ⟨_,x,s,gF,cF,p2,a2,n2,c2,rfl,by rw [← hlt]; exact HO7.out,hF,hI,R5,hx1,by omega,HR.out,BB⟩
  ·have HO7 : Hid (u7 = .slice (some ⟨gF,0,none⟩) (acc.length + 1) cF) := ho7
   clear ho7
   rw [decide_eq_false hr0]
   have hpos : 0 < r := by omega
   go_wp2_with fail
   refine (ndiv_at _ _ d r L L _ h1 h2 (by omega) hpos).mono ?_
   rintro e w1 ⟨lv,rv,rfl,hlo,hle,b1⟩
   replace h1 := h1.below b1
   replace h2 := h2.below b1
   replace O := O.below b1
   replace hF := hF.below b1
   replace hI := hI.below b1
   replace BB := BB.trans (b1.mono BB.size)
   clear b1
   obtain ⟨la,ln,lc,rfl⟩ := hlo.open
   have HT2 : Hid (tot = acc ++ d / r :: foldN (d % r) r (d % r)) := by show _ = _; rw [← fold_step d r hr0]; exact HT.out
   have hzz : foldZ fl tot (acc.length + 1) = ((d / r : Nat) : Int) := by rw [HT2.out,foldZ_mid]
   have q0 := nl_quo d r L l1
   have r0 := nl_mod d r L hpos l2
   have hmd := Nat.mod_lt d hpos
   have X : IntAt w1 (.agg #[.bool false,.slice la ln lc]) (foldZ fl tot (acc.length + 1)) (L + 1) := by
    rw [hzz,← zof_false]; exact IntAt.mk (hlo.at _ (by omega))
   have htl : acc.length + 1 ≤ tot.length := by rw [HT2.out]; simp
   have HT3 : Hid (tot = (acc ++ [d / r]) ++ foldN (d % r) r (d % r)) := by show _ = _; rw [List.append_assoc]; exact HT2.out
   clear hzz HT HT2
   generalize d % r = t at *
   generalize d / r = A at *
   obtain ⟨us,el,o1,o2,o3,o4⟩ := O
   have o1' := o1
   rw [HO7.out] at o1'
   have hff := own_first o1' (by have := o1.1; omega) hF
   have HF0 : Hid (us[0]? = some (.bool p2)) := hff.1
   have HF1 : Hid (us[1]? = some (.slice a2 n2 c2)) := hff.2
   clear o1' hff
   have hul : us.length = (acc.length + 1) * 2 := o1.1
   have A9 : Below w1.heap.size w1 (w1.alloc (.cells #[.bool false,.slice la ln lc] 33)) := (Below.refl _ _).alloc (Nat.le_refl _) _
   have HO3 : Hid (∀ i,i < acc.length + 1 → ∀ j,j < 2 → us[i * 2 + j]? = some (el i j)) := o3
   have HO4 : Hid (∀ i,i < acc.length + 1 → IntAt w1 (.agg #[el i 0,el i 1]) (foldZ fl tot i) (L + 1)) := o4
   have HPO : Hid (∀ g0,Value.ownBlock u7 = some g0 → PureB IsNum (w1.alloc (.cells #[.bool false,.slice la ln lc] 33)) g0) := fun g0 hg0 => (o2 g0 hg0).below A9 (o1.lt g0 hg0).2
   have HLT : Hid (∀ g0,Value.ownBlock u7 = some g0 → w.heap.size ≤ g0) := fun g0 hg0 => (o1.lt g0 hg0).1
   have hbz : w.heap.size ≤ w1.heap.size := BB.size
   clear o2 o3 o4
   go_wp2_with (at_builtin; refine wpList_append_pure (Q' := IsNum) rfl _ _ _ rfl w.heap.size 33 (.agg #[.bool false,.slice none 0 0]) 2 32 Tryz.underlying58 info_wint rfl (by omega) u7 rfl (acc.length + 1) us (o1.alloc _) HPO.out ⟨w1.heap.size,0,none⟩ 1 rfl [.bool false,.slice la ln lc] rfl (news_block (heap_alloc_new _ _)) (by simp [Value.oneCell']) (by simp [num_slice,num_bool]) (by simp [Value.cells,num_slice,num_bool]) (by omega) (by omega) (by simp; omega) ?_)
   intro g5 cap5 w5 ho5 hg5 hat5 hp5 hk5
   have E5 : IOwn w.heap.size w5 (.slice (some ⟨g5,0,none⟩) (acc.length + 1 + 1) cap5) (acc.length + 1 + 1) (foldZ fl tot) (L + 1) := IOwn.more ho5 hp5 hul HO3.out (fun i hi => (HO4.out i hi).below A9) (X.below A9) hk5
   have B5 : Below w.heap.size w w5 := below_grownB (BB.trans (A9.mono BB.size)) hg5 (by have := (BB.trans (A9.mono BB.size)).size; omega) (fun g0 hg0 => by have := HLT.out g0 hg0; omega)
   replace h2 := (h2.below A9).keep hk5
   replace hI := (hI.below A9).keep hk5
   have F5 : E2 w5 g5 0 (.bool p2) (.slice a2 n2 c2) := ⟨owns_cell ho5 (by rw [List.getElem?_append_left (by omega)]; exact HF0.out),owns_cell ho5 (by rw [List.getElem?_append_left (by omega)]; exact HF1.out)⟩
   replace hle := ((hle.at L (by omega)).below A9).keep hk5
   have E6 : IOwn w.heap.size w5 (.slice (some ⟨g5,0,none⟩) (acc.length + 1 + 1) cap5) ((acc ++ [A]).length + 1) (foldZ fl tot) (L + 1) := by rw [List.length_append]; exact E5
   clear hF HF0 HF1 HO7 o1 HPO HLT HO3 HO4 ho5 hg5 hat5 hp5 hk5 A9 BB E5 X h1 hlo
   go_wp2
   go_roundg t
   case measure => have := HK.out; omega
   case rel => exact ⟨r,t,acc ++ [A],rfl,h2,hle,hmd,HT3,E6,⟨g5,cap5,by rw [List.length_append]; rfl,F5⟩,hI,B5⟩


theorem fold_pos : ∀ (k d r : Nat),r ≤ k → r < d → ∀ i,i < (foldN r d r).length → 0 < (foldN r d r).getD i 0 ∧ (i + 1 = (foldN r d r).length → 2 ≤ (foldN r d r).getD i 0)
 | 0,d,r,h,_,i,hi => by
  obtain rfl : r = 0 := by omega
  exact absurd hi (by show ¬ i < 0; omega)
 | k + 1,d,r,h,hd,i,hi => by
  by_cases h0 : r = 0
  ·subst h0; exact absurd hi (by show ¬ i < 0; omega)
  ·have hs := fold_step d r h0
   rw [hs] at hi ⊢
   have hm := Nat.mod_lt d (show 0 < r by omega)
   have hq : 1 ≤ d / r := Nat.div_pos (by omega) (by omega)
   cases i with
   | zero =>
    refine ⟨by show 0 < d / r; omega,fun e => ?_⟩
    show 2 ≤ d / r
    have hz : d % r = 0 := by
     by_cases hz : d % r = 0
     ·exact hz
     ·rw [fold_step r (d % r) hz] at e
      simp at e
    have h5 := Nat.div_add_mod d r
    rw [hz] at h5
    rcases Nat.lt_or_ge 1 (d / r) with g | g
    ·exact g
    ·have : d / r = 1 := by omega
     rw [this] at h5; omega
   | succ i =>
    have := fold_pos k r (d % r) (by omega) hm i (by simpa using hi)
    refine ⟨this.1,fun e => this.2 (by simp at e; omega)⟩
theorem fold_unf : ∀ (k d r : Nat),r ≤ k → 0 < r → r < d → ∀ (Z : Nat → Int) (N : Nat),(foldN r d r).length ≤ N → (∀ j,j < (foldN r d r).length → Z (N - 1 - j) = (((foldN r d r).getD ((foldN r d r).length - 1 - j) 0 : Nat) : Int)) →
  (unfN Z N ((foldN r d r).length - 1)).1 * (r : Int) = (unfN Z N ((foldN r d r).length - 1)).2 * (d : Int) ∧ ∀ j,j < (foldN r d r).length → 0 < (unfN Z N j).1 ∧ 0 < (unfN Z N j).2
 | 0,d,r,h,h0,_,_,_,_,_ => by omega
 | k + 1,d,r,h,h0,hd,Z,N,hN,hZ => by
  have hs := fold_step d r (by omega)
  have hm := Nat.mod_lt d h0
  have hq : 1 ≤ d / r := Nat.div_pos (by omega) h0
  have h5 := Nat.div_add_mod d r
  rw [hs] at hN hZ ⊢
  by_cases hz : d % r = 0
  ·have e0 : foldN (d % r) r (d % r) = [] := by rw [hz]; rfl
   rw [e0] at hN hZ ⊢
   have z0 := hZ 0 (by simp)
   simp at z0
   have e1 : unfN Z N 0 = (((d / r : Nat) : Int),1) := by show (Z (N - 1),(1 : Int)) = _; rw [z0]; simp
   refine ⟨?_,fun j hj => ?_⟩
   ·show (unfN Z N 0).1 * (r : Int) = (unfN Z N 0).2 * (d : Int)
    rw [e1]
    show ((d / r : Nat) : Int) * (r : Int) = 1 * (d : Int)
    rw [← Int.natCast_mul,Int.one_mul,Nat.mul_comm,show r * (d / r) = d by omega]
   ·obtain rfl : j = 0 := by simpa using hj
    rw [e1]; exact ⟨by show (0 : Int) < ((d / r : Nat) : Int); omega,by show (0 : Int) < 1; omega⟩
  ·have ih := fold_unf k r (d % r) (by omega) (by omega) hm Z N
   generalize hL : foldN (d % r) r (d % r) = L at *
   have hl0 : 0 < L.length := by rw [← hL,fold_step r (d % r) hz]; simp
   obtain ⟨i1,i2⟩ := ih (by simp at hN; omega) (fun j hj => by
    have := hZ j (by simp; omega)
    rw [this,show (d / r :: L).length - 1 - j = (L.length - 1 - j) + 1 by simp; omega]
    rfl)
   have zl := hZ L.length (by simp)
   have e1 : unfN Z N L.length = ((((d / r : Nat) : Int)) * (unfN Z N (L.length - 1)).1 + (unfN Z N (L.length - 1)).2,(unfN Z N (L.length - 1)).1) := by
    obtain ⟨m,hm2⟩ : ∃ m,L.length = m + 1 := ⟨L.length - 1,by omega⟩
    rw [hm2,Nat.add_sub_cancel]
    show (Z (N - 2 - m) * (unfN Z N m).1 + (unfN Z N m).2,(unfN Z N m).1) = _
    have : Z (N - 2 - m) = ((d / r : Nat) : Int) := by
     rw [show N - 2 - m = N - 1 - L.length by omega,zl]
     simp
    rw [this]
   obtain ⟨p1,p2⟩ := i2 (L.length - 1) (by omega)
   have e2 : (d / r :: L).length - 1 = L.length := by simp
   rw [e2,e1]
   generalize (unfN Z N (L.length - 1)).1 = A at *
   generalize (unfN Z N (L.length - 1)).2 = C at *
   have h6 : (d : Int) = (r : Int) * ((d / r : Nat) : Int) + ((d % r : Nat) : Int) := by rw [← Int.natCast_mul,← Int.natCast_add,h5]
   have ha : (0 : Int) < ((d / r : Nat) : Int) := by omega
   generalize ((d / r : Nat) : Int) = a at *
   generalize ((d % r : Nat) : Int) = t at *
   refine ⟨?_,fun j hj => ?_⟩
   ·show (a * A + C) * (r : Int) = A * (d : Int)
    rw [h6]; grind
   ·by_cases hj2 : j = L.length
    ·subst hj2
     rw [e1]
     have := Int.mul_pos ha p1
     exact ⟨by show 0 < a * A + C; omega,p1⟩
    ·exact i2 j (by simp at hj; omega)
/-- What is folded is the number again. -/
theorem fold_back (fl : Int) (d s : Nat) (h : s < d) : (∀ i,i + 1 < (foldN s d s).length + 1 → (unfN (foldZ fl (foldN s d s)) ((foldN s d s).length + 1) i).1 ≠ 0) ∧
  ((unfN (foldZ fl (foldN s d s)) ((foldN s d s).length + 1) (foldN s d s).length).1 : Rat) / ((unfN (foldZ fl (foldN s d s)) ((foldN s d s).length + 1) (foldN s d s).length).2 : Rat) = (fl : Rat) + mkRat s d := by
 by_cases h0 : s = 0
 ·subst h0
  refine ⟨fun i hi => absurd hi (by show ¬ i + 1 < 0 + 1; omega),?_⟩
  show ((fl : Int) : Rat) / ((1 : Int) : Rat) = _
  rw [show mkRat ((0 : Nat) : Int) d = 0 by simp,Rat.intCast_one]; grind
 ·have hZ : ∀ j,j < (foldN s d s).length → foldZ fl (foldN s d s) ((foldN s d s).length + 1 - 1 - j) = (((foldN s d s).getD ((foldN s d s).length - 1 - j) 0 : Nat) : Int) := fun j hj => by
   unfold foldZ; rw [if_neg (by omega),show (foldN s d s).length + 1 - 1 - j - 1 = (foldN s d s).length - 1 - j by omega]
  obtain ⟨u1,u2⟩ := fold_unf s d s (Nat.le_refl _) (by omega) h (foldZ fl (foldN s d s)) ((foldN s d s).length + 1) (by omega) hZ
  refine ⟨fun i hi => by have := (u2 i (by omega)).1; omega,?_⟩
  have hl0 : 0 < (foldN s d s).length := by rw [fold_step d s h0]; simp
  have p := u2 ((foldN s d s).length - 1) (by omega)
  have e1 : unfN (foldZ fl (foldN s d s)) ((foldN s d s).length + 1) (foldN s d s).length = (fl * (unfN (foldZ fl (foldN s d s)) ((foldN s d s).length + 1) ((foldN s d s).length - 1)).1 + (unfN (foldZ fl (foldN s d s)) ((foldN s d s).length + 1) ((foldN s d s).length - 1)).2,(unfN (foldZ fl (foldN s d s)) ((foldN s d s).length + 1) ((foldN s d s).length - 1)).1) := by
   have hz0 : foldZ fl (foldN s d s) 0 = fl := rfl
   generalize foldZ fl (foldN s d s) = Z at *
   obtain ⟨m,hm2⟩ : ∃ m,(foldN s d s).length = m + 1 := ⟨(foldN s d s).length - 1,by omega⟩
   rw [hm2,Nat.add_sub_cancel]
   show (Z (m + 1 + 1 - 2 - m) * (unfN Z (m + 1 + 1) m).1 + (unfN Z (m + 1 + 1) m).2,(unfN Z (m + 1 + 1) m).1) = _
   rw [show m + 1 + 1 - 2 - m = 0 by omega,hz0]
  rw [e1]
  generalize (unfN (foldZ fl (foldN s d s)) ((foldN s d s).length + 1) ((foldN s d s).length - 1)).1 = A at *
  generalize (unfN (foldZ fl (foldN s d s)) ((foldN s d s).length + 1) ((foldN s d s).length - 1)).2 = C at *
  show ((fl * A + C : Int) : Rat) / (A : Rat) = _
  rw [Rat.mkRat_eq_div,Rat.intCast_add,Rat.intCast_mul]
  have a0 : (A : Rat) ≠ 0 := fun e => by have := Rat.intCast_eq_zero_iff.1 e; omega
  have d0 : ((d : Nat) : Rat) ≠ 0 := fun e => by have := Rat.natCast_eq_zero_iff.1 e; omega
  have u3 : ((A * (s : Int) : Int) : Rat) = ((C * (d : Int) : Int) : Rat) := by rw [u1]
  rw [Rat.intCast_mul,Rat.intCast_mul,Rat.intCast_natCast] at u3
  rw [Rat.intCast_natCast] at u3 ⊢
  generalize ((d : Nat) : Rat) = D at *
  generalize ((s : Nat) : Rat) = S at *
  generalize (A : Rat) = a at *
  generalize (C : Rat) = c at *
  grind

end Go.Proofs.YthlogenaienkhaaGreatDoor
