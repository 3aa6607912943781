/-
  Texts of mine, joined: what lies beneath the statement.
-/
import Derived.Test.YtmbmboiefhmfmaaGreatDoorJb1573f1f59
import Derived.Test.YtmbmboiefhmfmaaGreatDoorJd511a43bc4
namespace Go.Proofs.YtmbmboiefhmfmaaGreatDoor
open Go.RowKit
set_option linter.unusedVariables false
set_option linter.unusedSimpArgs false
set_option maxRecDepth 20000 in
set_option maxHeartbeats 4000000 in
theorem jfloor_at (u : Value) (q : Rat) (L : Nat) (w : World) (hu : DocQ w u q L) (hL : L ≤ 900) :
  Calls Tryz.prog 23 #[u] w fun e w' => ∃ x,e = .returned x ∧ RepJ w' x q.floor ∧ Below w.heap.size w w' := by
 obtain ⟨z,x,hP,rfl⟩ := hu
 obtain ⟨p,ao,n,c,bo,m,d,rfl⟩ := hP.open
 obtain ⟨hz,hx,hx0,l1,l2⟩ := hP.parts
 rw [floor_mkRat z x hx0]
 have l3 : nl W32 z.natAbs ≤ 1000 := by omega
 have l4 : nl W32 ((x : Int)).natAbs ≤ 1000 := natc_nl (by omega)
 clear hP
 have BB : Below w.heap.size w w := Below.refl _ _
 obtain ⟨Wb0,hW0,hS0,hL0,VA⟩ := V3.lay w 38 (.bool p) (.slice ao n c) (.slice bo m d)
 replace hz := hz.below hL0
 replace hx := hx.below hL0
 replace BB := BB.trans (hL0.mono BB.size)
 clear hL0
 obtain ⟨Wb1,hW1,hS1,hL1,VR⟩ := V2.lay Wb0 36 (.bool false) (.slice none 0 0)
 rw [hS0] at VR hS1
 replace hz := hz.below hL1
 replace hx := hx.below hL1
 replace VA := VA.below hL1
 replace BB := BB.trans (hL1.mono BB.size)
 clear hL1
 go_enter Tryz.func23,Tryz.ntmps23
 go_wp2
 rw [← hW0]
 rw [← hW1]
 clear hW0 hW1 hS0 hS1
 have hDr : Below Wb1.heap.size Wb1 Wb1.drew := (Below.refl _ _).drew
 replace hz := hz.below hDr
 replace hx := hx.below hDr
 replace VA := VA.below hDr
 replace VR := VR.below hDr
 replace BB := BB.trans (hDr.mono BB.size)
 clear hDr
 refine wp_region_held_drew (S := (fun w' => w'.cell? ⟨w.heap.size,0,none⟩ = some (.bool p) ∧ w'.cell? ⟨w.heap.size,1,none⟩ = some (.slice ao n c) ∧ w'.cell? ⟨w.heap.size,2,none⟩ = some (.slice bo m d))) (by kernel_rfl) ?_ (fun hHeld => ?_)
 ·exact ⟨VA.1,VA.2.1,VA.2.2.1⟩
 generalize Wb1.drew = W1 at *
 refine xT 0 (v := ?_) (hy := Or.inl ⟨by rfl,?_⟩) (h := ?_)
 rotate_left
 ·(intro w hSw; (try dsimp only at hSw); go_simp; (try with_reducible rfl))
 (try simp only [Act.put,xL4,xL5,xL6])
 refine xT 1 (v := ?_) (hy := Or.inl ⟨by rfl,?_⟩) (h := ?_)
 rotate_left
 ·(intro w hSw; (try dsimp only at hSw); go_simp; (try with_reducible rfl))
 (try simp only [Act.put,xL4,xL5,xL6])
 refine xT 2 (v := ?_) (hy := Or.inl ⟨by rfl,?_⟩) (h := ?_)
 rotate_left
 ·(intro w hSw; (try dsimp only at hSw); go_simp; (try with_reducible rfl))
 (try simp only [Act.put,xL4,xL5,xL6])
 refine xR [3,8,9] (h := ?_)
 refine xC (h := fun K hK => ?_) (hs := ?_)
 ·
  go_simp
  refine (den_at p ao n c bo m d x _ hx).mono ?_
  rintro e w1 ⟨e1,rfl,h1,b1⟩
  go_wp2_with fail
  replace hz := hz.below b1
  replace hx := hx.below b1
  replace VA := VA.below b1
  replace VR := VR.below b1
  replace BB := BB.trans (b1.mono BB.size)
  clear b1
  refine hK.out _ _ ?_ (fun hH1 => ?_)
  ·exact ⟨VA.1,VA.2.1,VA.2.2.1⟩
  clear hK K hHeld
  (try simp only [Act.put,xL4,xL5,xL6])
  refine xR [4,8,9] (h := ?_)
  refine xC (h := fun K hK => ?_) (hs := ?_)
  ·
   go_simp
   refine (rover_any _ _ z (x : Int) _ hz h1 (by omega) l3 l4).mono ?_
   rintro e w2 ⟨e2,e3,rfl,hq,hr,b2⟩
   obtain ⟨pq,aq,nq,cq,rfl⟩ := hq.open
   obtain ⟨pr,ar,nr,cr,rfl⟩ := hr.open
   go_wp2_with fail
   replace hz := hz.below b2
   replace hx := hx.below b2
   replace h1 := h1.below b2
   replace VA := VA.below b2
   replace VR := VR.below b2
   replace BB := BB.trans (b2.mono BB.size)
   clear b2
   refine hK.out _ _ ?_ (fun hH2 => ?_)
   ·exact ⟨VA.1,VA.2.1,VA.2.2.1⟩
   clear hK K hH1
   (try simp only [Act.put,xL4,xL5,xL6])
   refine xT 5 (v := ?_) (hy := Or.inl ⟨by rfl,?_⟩) (h := ?_)
   rotate_left
   ·(intro w hSw; (try dsimp only at hSw); go_simp; (try with_reducible rfl))
   (try simp only [Act.put,xL4,xL5,xL6])
   refine xT 6 (v := ?_) (hy := Or.inl ⟨by rfl,?_⟩) (h := ?_)
   rotate_left
   ·(intro w hSw; (try dsimp only at hSw); go_simp; (try with_reducible rfl))
   (try simp only [Act.put,xL4,xL5,xL6])
   refine xT 7 (v := ?_) (hy := Or.inl ⟨by rfl,?_⟩) (h := ?_)
   rotate_left
   ·(intro w hSw; (try dsimp only at hSw); go_simp; (try with_reducible rfl))
   (try simp only [Act.put,xL4,xL5,xL6])
   refine xR [8,9] (h := ?_)
   refine xC (h := fun K hK => ?_) (hs := ?_)
   ·
    go_simp
    have hZ2 : w.heap.size ≤ w2.heap.size := BB.size
    have hN2VA : w.heap.size ≠ w2.heap.size := Nat.ne_of_lt VA.lt
    have hN2VR : w.heap.size + 1 ≠ w2.heap.size := Nat.ne_of_lt VR.lt
    obtain ⟨W2,hW2,hS2,hL2,VQ⟩ := V2.lay w2 36 (.bool false) (.slice none 0 0)
    replace hz := hz.below hL2
    replace hx := hx.below hL2
    replace h1 := h1.below hL2
    replace hq := hq.below hL2
    replace hr := hr.below hL2
    replace VA := VA.below hL2
    replace VR := VR.below hL2
    replace BB := BB.trans (hL2.mono BB.size)
    clear hL2
    rw [← hW2]
    generalize w2.heap.size = R2 at *
    clear hW2 hS2
    refine hK.out _ _ ?_ (fun hH3 => ?_)
    ·exact ⟨VA.1,VA.2.1,VA.2.2.1⟩
    clear hK K hH2
    (try simp only [Act.put,xL4,xL5,xL6])
    refine xR [9] (h := ?_)
    refine xN (h := fun K hK => ?_)
    go_simp
    have hZ3 : w.heap.size ≤ W2.heap.size := BB.size
    have hN3VA : w.heap.size ≠ W2.heap.size := Nat.ne_of_lt VA.lt
    have hN3VR : w.heap.size + 1 ≠ W2.heap.size := Nat.ne_of_lt VR.lt
    have hN3VQ : R2 ≠ W2.heap.size := Nat.ne_of_lt VQ.lt
    obtain ⟨W3,hW3,hS3,hL3,VM⟩ := V2.lay W2 36 (.bool false) (.slice none 0 0)
    replace hz := hz.below hL3
    replace hx := hx.below hL3
    replace h1 := h1.below hL3
    replace hq := hq.below hL3
    replace hr := hr.below hL3
    replace VA := VA.below hL3
    replace VR := VR.below hL3
    replace VQ := VQ.below hL3
    replace BB := BB.trans (hL3.mono BB.size)
    clear hL3
    rw [← hW3]
    generalize W2.heap.size = R3 at *
    clear hW3 hS3
    refine hK.out _ _ ?_ (fun hH4 => ?_)
    ·exact ⟨VA.1,VA.2.1,VA.2.2.1⟩
    clear hK K hH3
    (try simp only [Act.put,xL4,xL5,xL6])
    refine xR [10] (h := ?_)
    refine xN (h := fun K hK => ?_)
    have hKp := VQ.keepJ (.bool pq) (.slice aq nq cq)
    have VA_n := VA.other2 (R := R2) (by omega) (.bool pq) (.slice aq nq cq)
    have VR_n := VR.other (R := R2) (by omega) (.bool pq) (.slice aq nq cq)
    have VM_n := VM.other (R := R2) (by omega) (.bool pq) (.slice aq nq cq)
    have VQ_n := VQ.same (.bool pq) (.slice aq nq cq)
    have hz_n := hz.keep hKp
    have hx_n := hx.keep hKp
    have h1_n := h1.keep hKp
    have hq_n := hq.keep hKp
    have hr_n := hr.keep hKp
    have BB_n := below_store2 (R := R2) BB (by omega) (.bool pq) (.slice aq nq cq)
    clear hKp
    obtain ⟨VQ_0,VQ_1,VQ_2,VQ_3⟩ := id VQ
    go_simp
    clear VQ_0 VQ_1 VQ_2 VQ_3
    clear BB hz hx h1 hq hr VA VR VQ VM
    generalize (W3.setCell ⟨R2,0,none⟩ (.bool pq)).setCell ⟨R2,1,none⟩ (.slice aq nq cq) = W4 at *
    have BB := BB_n
    have hz := hz_n
    have hx := hx_n
    have h1 := h1_n
    have hq := hq_n
    have hr := hr_n
    have VA := VA_n
    have VR := VR_n
    have VQ := VQ_n
    have VM := VM_n
    clear BB_n hz_n hx_n h1_n hq_n hr_n VA_n VR_n VQ_n VM_n
    refine hK.out _ _ ?_ (fun hH5 => ?_)
    ·exact ⟨VA.1,VA.2.1,VA.2.2.1⟩
    clear hK K hH4
    (try simp only [Act.put,xL4,xL5,xL6])
    refine xR [11] (h := ?_)
    refine xN (h := fun K hK => ?_)
    have hKp := VM.keepJ (.bool pr) (.slice ar nr cr)
    have VA_n := VA.other2 (R := R3) (by omega) (.bool pr) (.slice ar nr cr)
    have VR_n := VR.other (R := R3) (by omega) (.bool pr) (.slice ar nr cr)
    have VQ_n := VQ.other (R := R3) (by omega) (.bool pr) (.slice ar nr cr)
    have VM_n := VM.same (.bool pr) (.slice ar nr cr)
    have hz_n := hz.keep hKp
    have hx_n := hx.keep hKp
    have h1_n := h1.keep hKp
    have hq_n := hq.keep hKp
    have hr_n := hr.keep hKp
    have BB_n := below_store2 (R := R3) BB (by omega) (.bool pr) (.slice ar nr cr)
    clear hKp
    obtain ⟨VM_0,VM_1,VM_2,VM_3⟩ := id VM
    go_simp
    clear VM_0 VM_1 VM_2 VM_3
    clear BB hz hx h1 hq hr VA VR VQ VM
    generalize (W4.setCell ⟨R3,0,none⟩ (.bool pr)).setCell ⟨R3,1,none⟩ (.slice ar nr cr) = W5 at *
    have BB := BB_n
    have hz := hz_n
    have hx := hx_n
    have h1 := h1_n
    have hq := hq_n
    have hr := hr_n
    have VA := VA_n
    have VR := VR_n
    have VQ := VQ_n
    have VM := VM_n
    clear BB_n hz_n hx_n h1_n hq_n hr_n VA_n VR_n VQ_n VM_n
    refine hK.out _ _ ?_ (fun hH6 => ?_)
    ·exact ⟨VA.1,VA.2.1,VA.2.2.1⟩
    clear hK K hH5
    (try simp only [Act.put,xL4,xL5,xL6])
    refine wpAnyH_done (by kernel_rfl) ?_ _
    clear hH6
    have hKp := VR.keepJ (.bool pq) (.slice aq nq cq)
    have hz_n := hz.keep hKp
    have hx_n := hx.keep hKp
    have h1_n := h1.keep hKp
    have hq_n := hq.keep hKp
    have hr_n := hr.keep hKp
    have BB_n := below_store2 (R := w.heap.size + 1) BB (by omega) (.bool pq) (.slice aq nq cq)
    clear hKp
    obtain ⟨VQ_0,VQ_1,VQ_2,VQ_3⟩ := id VQ
    obtain ⟨q1,q2,q3,q4⟩ := id VR
    go_wp2
    (try simp only [Exit.inBlock,Exit.then])
    refine bodyPost_ret (v := .agg #[.bool pq,.slice aq nq cq]) (by simp [results,go_sem,q1,q2]) rfl ?_
    exact ⟨_,rfl,hq_n,BB_n⟩
   refine xC (h := fun K hK => ?_) (hs := ?_)
   ·
    go_simp
    have hZ6 : w.heap.size ≤ w2.heap.size := BB.size
    have hN6VA : w.heap.size ≠ w2.heap.size := Nat.ne_of_lt VA.lt
    have hN6VR : w.heap.size + 1 ≠ w2.heap.size := Nat.ne_of_lt VR.lt
    obtain ⟨W6,hW6,hS6,hL6,VM⟩ := V2.lay w2 36 (.bool false) (.slice none 0 0)
    replace hz := hz.below hL6
    replace hx := hx.below hL6
    replace h1 := h1.below hL6
    replace hq := hq.below hL6
    replace hr := hr.below hL6
    replace VA := VA.below hL6
    replace VR := VR.below hL6
    replace BB := BB.trans (hL6.mono BB.size)
    clear hL6
    rw [← hW6]
    generalize w2.heap.size = R6 at *
    clear hW6 hS6
    refine hK.out _ _ ?_ (fun hH3 => ?_)
    ·exact ⟨VA.1,VA.2.1,VA.2.2.1⟩
    clear hK K hH2
    (try simp only [Act.put,xL4,xL5,xL6])
    refine xR [8] (h := ?_)
    refine xN (h := fun K hK => ?_)
    go_simp
    have hZ7 : w.heap.size ≤ W6.heap.size := BB.size
    have hN7VA : w.heap.size ≠ W6.heap.size := Nat.ne_of_lt VA.lt
    have hN7VR : w.heap.size + 1 ≠ W6.heap.size := Nat.ne_of_lt VR.lt
    have hN7VM : R6 ≠ W6.heap.size := Nat.ne_of_lt VM.lt
    obtain ⟨W7,hW7,hS7,hL7,VQ⟩ := V2.lay W6 36 (.bool false) (.slice none 0 0)
    replace hz := hz.below hL7
    replace hx := hx.below hL7
    replace h1 := h1.below hL7
    replace hq := hq.below hL7
    replace hr := hr.below hL7
    replace VA := VA.below hL7
    replace VR := VR.below hL7
    replace VM := VM.below hL7
    replace BB := BB.trans (hL7.mono BB.size)
    clear hL7
    rw [← hW7]
    generalize W6.heap.size = R7 at *
    clear hW7 hS7
    refine hK.out _ _ ?_ (fun hH4 => ?_)
    ·exact ⟨VA.1,VA.2.1,VA.2.2.1⟩
    clear hK K hH3
    (try simp only [Act.put,xL4,xL5,xL6])
    refine xR [10] (h := ?_)
    refine xN (h := fun K hK => ?_)
    have hKp := VQ.keepJ (.bool pq) (.slice aq nq cq)
    have VA_n := VA.other2 (R := R7) (by omega) (.bool pq) (.slice aq nq cq)
    have VR_n := VR.other (R := R7) (by omega) (.bool pq) (.slice aq nq cq)
    have VM_n := VM.other (R := R7) (by omega) (.bool pq) (.slice aq nq cq)
    have VQ_n := VQ.same (.bool pq) (.slice aq nq cq)
    have hz_n := hz.keep hKp
    have hx_n := hx.keep hKp
    have h1_n := h1.keep hKp
    have hq_n := hq.keep hKp
    have hr_n := hr.keep hKp
    have BB_n := below_store2 (R := R7) BB (by omega) (.bool pq) (.slice aq nq cq)
    clear hKp
    obtain ⟨VQ_0,VQ_1,VQ_2,VQ_3⟩ := id VQ
    go_simp
    clear VQ_0 VQ_1 VQ_2 VQ_3
    clear BB hz hx h1 hq hr VA VR VM VQ
    generalize (W7.setCell ⟨R7,0,none⟩ (.bool pq)).setCell ⟨R7,1,none⟩ (.slice aq nq cq) = W8 at *
    have BB := BB_n
    have hz := hz_n
    have hx := hx_n
    have h1 := h1_n
    have hq := hq_n
    have hr := hr_n
    have VA := VA_n
    have VR := VR_n
    have VM := VM_n
    have VQ := VQ_n
    clear BB_n hz_n hx_n h1_n hq_n hr_n VA_n VR_n VM_n VQ_n
    refine hK.out _ _ ?_ (fun hH5 => ?_)
    ·exact ⟨VA.1,VA.2.1,VA.2.2.1⟩
    clear hK K hH4
    (try simp only [Act.put,xL4,xL5,xL6])
    refine xR [11] (h := ?_)
    refine xN (h := fun K hK => ?_)
    have hKp := VM.keepJ (.bool pr) (.slice ar nr cr)
    have VA_n := VA.other2 (R := R6) (by omega) (.bool pr) (.slice ar nr cr)
    have VR_n := VR.other (R := R6) (by omega) (.bool pr) (.slice ar nr cr)
    have VQ_n := VQ.other (R := R6) (by omega) (.bool pr) (.slice ar nr cr)
    have VM_n := VM.same (.bool pr) (.slice ar nr cr)
    have hz_n := hz.keep hKp
    have hx_n := hx.keep hKp
    have h1_n := h1.keep hKp
    have hq_n := hq.keep hKp
    have hr_n := hr.keep hKp
    have BB_n := below_store2 (R := R6) BB (by omega) (.bool pr) (.slice ar nr cr)
    clear hKp
    obtain ⟨VM_0,VM_1,VM_2,VM_3⟩ := id VM
    go_simp
    clear VM_0 VM_1 VM_2 VM_3
    clear BB hz hx h1 hq hr VA VR VM VQ
    generalize (W8.setCell ⟨R6,0,none⟩ (.bool pr)).setCell ⟨R6,1,none⟩ (.slice ar nr cr) = W9 at *
    have BB := BB_n
    have hz := hz_n
    have hx := hx_n
    have h1 := h1_n
    have hq := hq_n
    have hr := hr_n
    have VA := VA_n
    have VR := VR_n
    have VM := VM_n
    have VQ := VQ_n
    clear BB_n hz_n hx_n h1_n hq_n hr_n VA_n VR_n VM_n VQ_n
    refine hK.out _ _ ?_ (fun hH6 => ?_)
    ·exact ⟨VA.1,VA.2.1,VA.2.2.1⟩
    clear hK K hH5
    (try simp only [Act.put,xL4,xL5,xL6])
    refine wpAnyH_done (by kernel_rfl) ?_ _
    clear hH6
    have hKp := VR.keepJ (.bool pq) (.slice aq nq cq)
    have hz_n := hz.keep hKp
    have hx_n := hx.keep hKp
    have h1_n := h1.keep hKp
    have hq_n := hq.keep hKp
    have hr_n := hr.keep hKp
    have BB_n := below_store2 (R := w.heap.size + 1) BB (by omega) (.bool pq) (.slice aq nq cq)
    clear hKp
    obtain ⟨VQ_0,VQ_1,VQ_2,VQ_3⟩ := id VQ
    obtain ⟨q1,q2,q3,q4⟩ := id VR
    go_wp2
    (try simp only [Exit.inBlock,Exit.then])
    refine bodyPost_ret (v := .agg #[.bool pq,.slice aq nq cq]) (by simp [results,go_sem,q1,q2]) rfl ?_
    exact ⟨_,rfl,hq_n,BB_n⟩
   exact AllReadyH.nil
  refine xC (h := fun K hK => ?_) (hs := ?_)
  ·
   go_simp
   have hZ10 : w.heap.size ≤ w1.heap.size := BB.size
   have hN10VA : w.heap.size ≠ w1.heap.size := Nat.ne_of_lt VA.lt
   have hN10VR : w.heap.size + 1 ≠ w1.heap.size := Nat.ne_of_lt VR.lt
   obtain ⟨W10,hW10,hS10,hL10,VQ⟩ := V2.lay w1 36 (.bool false) (.slice none 0 0)
   replace hz := hz.below hL10
   replace hx := hx.below hL10
   replace h1 := h1.below hL10
   replace VA := VA.below hL10
   replace VR := VR.below hL10
   replace BB := BB.trans (hL10.mono BB.size)
   clear hL10
   rw [← hW10]
   generalize w1.heap.size = R10 at *
   clear hW10 hS10
   refine hK.out _ _ ?_ (fun hH2 => ?_)
   ·exact ⟨VA.1,VA.2.1,VA.2.2.1⟩
   clear hK K hH1
   (try simp only [Act.put,xL4,xL5,xL6])
   refine xR [4,9] (h := ?_)
   refine xC (h := fun K hK => ?_) (hs := ?_)
   ·
    go_simp
    refine (rover_any _ _ z (x : Int) _ hz h1 (by omega) l3 l4).mono ?_
    rintro e w3 ⟨e2,e3,rfl,hq,hr,b3⟩
    obtain ⟨pq,aq,nq,cq,rfl⟩ := hq.open
    obtain ⟨pr,ar,nr,cr,rfl⟩ := hr.open
    go_wp2_with fail
    replace hz := hz.below b3
    replace hx := hx.below b3
    replace h1 := h1.below b3
    replace VA := VA.below b3
    replace VR := VR.below b3
    replace VQ := VQ.below b3
    replace BB := BB.trans (b3.mono BB.size)
    clear b3
    refine hK.out _ _ ?_ (fun hH3 => ?_)
    ·exact ⟨VA.1,VA.2.1,VA.2.2.1⟩
    clear hK K hH2
    (try simp only [Act.put,xL4,xL5,xL6])
    refine xT 5 (v := ?_) (hy := Or.inl ⟨by rfl,?_⟩) (h := ?_)
    rotate_left
    ·(intro w hSw; (try dsimp only at hSw); go_simp; (try with_reducible rfl))
    (try simp only [Act.put,xL4,xL5,xL6])
    refine xT 6 (v := ?_) (hy := Or.inl ⟨by rfl,?_⟩) (h := ?_)
    rotate_left
    ·(intro w hSw; (try dsimp only at hSw); go_simp; (try with_reducible rfl))
    (try simp only [Act.put,xL4,xL5,xL6])
    refine xT 7 (v := ?_) (hy := Or.inl ⟨by rfl,?_⟩) (h := ?_)
    rotate_left
    ·(intro w hSw; (try dsimp only at hSw); go_simp; (try with_reducible rfl))
    (try simp only [Act.put,xL4,xL5,xL6])
    refine xR [9] (h := ?_)
    refine xN (h := fun K hK => ?_)
    go_simp
    have hZ11 : w.heap.size ≤ w3.heap.size := BB.size
    have hN11VA : w.heap.size ≠ w3.heap.size := Nat.ne_of_lt VA.lt
    have hN11VR : w.heap.size + 1 ≠ w3.heap.size := Nat.ne_of_lt VR.lt
    have hN11VQ : R10 ≠ w3.heap.size := Nat.ne_of_lt VQ.lt
    obtain ⟨W11,hW11,hS11,hL11,VM⟩ := V2.lay w3 36 (.bool false) (.slice none 0 0)
    replace hz := hz.below hL11
    replace hx := hx.below hL11
    replace h1 := h1.below hL11
    replace hq := hq.below hL11
    replace hr := hr.below hL11
    replace VA := VA.below hL11
    replace VR := VR.below hL11
    replace VQ := VQ.below hL11
    replace BB := BB.trans (hL11.mono BB.size)
    clear hL11
    rw [← hW11]
    generalize w3.heap.size = R11 at *
    clear hW11 hS11
    refine hK.out _ _ ?_ (fun hH4 => ?_)
    ·exact ⟨VA.1,VA.2.1,VA.2.2.1⟩
    clear hK K hH3
    (try simp only [Act.put,xL4,xL5,xL6])
    refine xR [10] (h := ?_)
    refine xN (h := fun K hK => ?_)
    have hKp := VQ.keepJ (.bool pq) (.slice aq nq cq)
    have VA_n := VA.other2 (R := R10) (by omega) (.bool pq) (.slice aq nq cq)
    have VR_n := VR.other (R := R10) (by omega) (.bool pq) (.slice aq nq cq)
    have VM_n := VM.other (R := R10) (by omega) (.bool pq) (.slice aq nq cq)
    have VQ_n := VQ.same (.bool pq) (.slice aq nq cq)
    have hz_n := hz.keep hKp
    have hx_n := hx.keep hKp
    have h1_n := h1.keep hKp
    have hq_n := hq.keep hKp
    have hr_n := hr.keep hKp
    have BB_n := below_store2 (R := R10) BB (by omega) (.bool pq) (.slice aq nq cq)
    clear hKp
    obtain ⟨VQ_0,VQ_1,VQ_2,VQ_3⟩ := id VQ
    go_simp
    clear VQ_0 VQ_1 VQ_2 VQ_3
    clear BB hz hx h1 hq hr VA VR VQ VM
    generalize (W11.setCell ⟨R10,0,none⟩ (.bool pq)).setCell ⟨R10,1,none⟩ (.slice aq nq cq) = W12 at *
    have BB := BB_n
    have hz := hz_n
    have hx := hx_n
    have h1 := h1_n
    have hq := hq_n
    have hr := hr_n
    have VA := VA_n
    have VR := VR_n
    have VQ := VQ_n
    have VM := VM_n
    clear BB_n hz_n hx_n h1_n hq_n hr_n VA_n VR_n VQ_n VM_n
    refine hK.out _ _ ?_ (fun hH5 => ?_)
    ·exact ⟨VA.1,VA.2.1,VA.2.2.1⟩
    clear hK K hH4
    (try simp only [Act.put,xL4,xL5,xL6])
    refine xR [11] (h := ?_)
    refine xN (h := fun K hK => ?_)
    have hKp := VM.keepJ (.bool pr) (.slice ar nr cr)
    have VA_n := VA.other2 (R := R11) (by omega) (.bool pr) (.slice ar nr cr)
    have VR_n := VR.other (R := R11) (by omega) (.bool pr) (.slice ar nr cr)
    have VQ_n := VQ.other (R := R11) (by omega) (.bool pr) (.slice ar nr cr)
    have VM_n := VM.same (.bool pr) (.slice ar nr cr)
    have hz_n := hz.keep hKp
    have hx_n := hx.keep hKp
    have h1_n := h1.keep hKp
    have hq_n := hq.keep hKp
    have hr_n := hr.keep hKp
    have BB_n := below_store2 (R := R11) BB (by omega) (.bool pr) (.slice ar nr cr)
    clear hKp
    obtain ⟨VM_0,VM_1,VM_2,VM_3⟩ := id VM
    go_simp
    clear VM_0 VM_1 VM_2 VM_3
    clear BB hz hx h1 hq hr VA VR VQ VM
    generalize (W12.setCell ⟨R11,0,none⟩ (.bool pr)).setCell ⟨R11,1,none⟩ (.slice ar nr cr) = W13 at *
    have BB := BB_n
    have hz := hz_n
    have hx := hx_n
    have h1 := h1_n
    have hq := hq_n
    have hr := hr_n
    have VA := VA_n
    have VR := VR_n
    have VQ := VQ_n
    have VM := VM_n
    clear BB_n hz_n hx_n h1_n hq_n hr_n VA_n VR_n VQ_n VM_n
    refine hK.out _ _ ?_ (fun hH6 => ?_)
    ·exact ⟨VA.1,VA.2.1,VA.2.2.1⟩
    clear hK K hH5
    (try simp only [Act.put,xL4,xL5,xL6])
    refine wpAnyH_done (by kernel_rfl) ?_ _
    clear hH6
    have hKp := VR.keepJ (.bool pq) (.slice aq nq cq)
    have hz_n := hz.keep hKp
    have hx_n := hx.keep hKp
    have h1_n := h1.keep hKp
    have hq_n := hq.keep hKp
    have hr_n := hr.keep hKp
    have BB_n := below_store2 (R := w.heap.size + 1) BB (by omega) (.bool pq) (.slice aq nq cq)
    clear hKp
    obtain ⟨VQ_0,VQ_1,VQ_2,VQ_3⟩ := id VQ
    obtain ⟨q1,q2,q3,q4⟩ := id VR
    go_wp2
    (try simp only [Exit.inBlock,Exit.then])
    refine bodyPost_ret (v := .agg #[.bool pq,.slice aq nq cq]) (by simp [results,go_sem,q1,q2]) rfl ?_
    exact ⟨_,rfl,hq_n,BB_n⟩
   refine xC (h := fun K hK => ?_) (hs := ?_)
   ·
    go_simp
    have hZ14 : w.heap.size ≤ W10.heap.size := BB.size
    have hN14VA : w.heap.size ≠ W10.heap.size := Nat.ne_of_lt VA.lt
    have hN14VR : w.heap.size + 1 ≠ W10.heap.size := Nat.ne_of_lt VR.lt
    have hN14VQ : R10 ≠ W10.heap.size := Nat.ne_of_lt VQ.lt
    obtain ⟨W14,hW14,hS14,hL14,VM⟩ := V2.lay W10 36 (.bool false) (.slice none 0 0)
    replace hz := hz.below hL14
    replace hx := hx.below hL14
    replace h1 := h1.below hL14
    replace VA := VA.below hL14
    replace VR := VR.below hL14
    replace VQ := VQ.below hL14
    replace BB := BB.trans (hL14.mono BB.size)
    clear hL14
    rw [← hW14]
    generalize W10.heap.size = R14 at *
    clear hW14 hS14
    refine hK.out _ _ ?_ (fun hH3 => ?_)
    ·exact ⟨VA.1,VA.2.1,VA.2.2.1⟩
    clear hK K hH2
    (try simp only [Act.put,xL4,xL5,xL6])
    refine xR [4] (h := ?_)
    refine xN (h := fun K hK => ?_)
    go_simp
    refine (rover_any _ _ z (x : Int) _ hz h1 (by omega) l3 l4).mono ?_
    rintro e w4 ⟨e2,e3,rfl,hq,hr,b4⟩
    obtain ⟨pq,aq,nq,cq,rfl⟩ := hq.open
    obtain ⟨pr,ar,nr,cr,rfl⟩ := hr.open
    go_wp2_with fail
    replace hz := hz.below b4
    replace hx := hx.below b4
    replace h1 := h1.below b4
    replace VA := VA.below b4
    replace VR := VR.below b4
    replace VQ := VQ.below b4
    replace VM := VM.below b4
    replace BB := BB.trans (b4.mono BB.size)
    clear b4
    refine hK.out _ _ ?_ (fun hH4 => ?_)
    ·exact ⟨VA.1,VA.2.1,VA.2.2.1⟩
    clear hK K hH3
    (try simp only [Act.put,xL4,xL5,xL6])
    refine xT 5 (v := ?_) (hy := Or.inl ⟨by rfl,?_⟩) (h := ?_)
    rotate_left
    ·(intro w hSw; (try dsimp only at hSw); go_simp; (try with_reducible rfl))
    (try simp only [Act.put,xL4,xL5,xL6])
    refine xT 6 (v := ?_) (hy := Or.inl ⟨by rfl,?_⟩) (h := ?_)
    rotate_left
    ·(intro w hSw; (try dsimp only at hSw); go_simp; (try with_reducible rfl))
    (try simp only [Act.put,xL4,xL5,xL6])
    refine xT 7 (v := ?_) (hy := Or.inl ⟨by rfl,?_⟩) (h := ?_)
    rotate_left
    ·(intro w hSw; (try dsimp only at hSw); go_simp; (try with_reducible rfl))
    (try simp only [Act.put,xL4,xL5,xL6])
    refine xR [10] (h := ?_)
    refine xN (h := fun K hK => ?_)
    have hKp := VQ.keepJ (.bool pq) (.slice aq nq cq)
    have VA_n := VA.other2 (R := R10) (by omega) (.bool pq) (.slice aq nq cq)
    have VR_n := VR.other (R := R10) (by omega) (.bool pq) (.slice aq nq cq)
    have VM_n := VM.other (R := R10) (by omega) (.bool pq) (.slice aq nq cq)
    have VQ_n := VQ.same (.bool pq) (.slice aq nq cq)
    have hz_n := hz.keep hKp
    have hx_n := hx.keep hKp
    have h1_n := h1.keep hKp
    have hq_n := hq.keep hKp
    have hr_n := hr.keep hKp
    have BB_n := below_store2 (R := R10) BB (by omega) (.bool pq) (.slice aq nq cq)
    clear hKp
    obtain ⟨VQ_0,VQ_1,VQ_2,VQ_3⟩ := id VQ
    go_simp
    clear VQ_0 VQ_1 VQ_2 VQ_3
    clear BB hz hx h1 hq hr VA VR VQ VM
    generalize (w4.setCell ⟨R10,0,none⟩ (.bool pq)).setCell ⟨R10,1,none⟩ (.slice aq nq cq) = W15 at *
    have BB := BB_n
    have hz := hz_n
    have hx := hx_n
    have h1 := h1_n
    have hq := hq_n
    have hr := hr_n
    have VA := VA_n
    have VR := VR_n
    have VQ := VQ_n
    have VM := VM_n
    clear BB_n hz_n hx_n h1_n hq_n hr_n VA_n VR_n VQ_n VM_n
    refine hK.out _ _ ?_ (fun hH5 => ?_)
    ·exact ⟨VA.1,VA.2.1,VA.2.2.1⟩
    clear hK K hH4
    (try simp only [Act.put,xL4,xL5,xL6])
    refine xR [11] (h := ?_)
    refine xN (h := fun K hK => ?_)
    have hKp := VM.keepJ (.bool pr) (.slice ar nr cr)
    have VA_n := VA.other2 (R := R14) (by omega) (.bool pr) (.slice ar nr cr)
    have VR_n := VR.other (R := R14) (by omega) (.bool pr) (.slice ar nr cr)
    have VQ_n := VQ.other (R := R14) (by omega) (.bool pr) (.slice ar nr cr)
    have VM_n := VM.same (.bool pr) (.slice ar nr cr)
    have hz_n := hz.keep hKp
    have hx_n := hx.keep hKp
    have h1_n := h1.keep hKp
    have hq_n := hq.keep hKp
    have hr_n := hr.keep hKp
    have BB_n := below_store2 (R := R14) BB (by omega) (.bool pr) (.slice ar nr cr)
    clear hKp
    obtain ⟨VM_0,VM_1,VM_2,VM_3⟩ := id VM
    go_simp
    clear VM_0 VM_1 VM_2 VM_3
    clear BB hz hx h1 hq hr VA VR VQ VM
    generalize (W15.setCell ⟨R14,0,none⟩ (.bool pr)).setCell ⟨R14,1,none⟩ (.slice ar nr cr) = W16 at *
    have BB := BB_n
    have hz := hz_n
    have hx := hx_n
    have h1 := h1_n
    have hq := hq_n
    have hr := hr_n
    have VA := VA_n
    have VR := VR_n
    have VQ := VQ_n
    have VM := VM_n
    clear BB_n hz_n hx_n h1_n hq_n hr_n VA_n VR_n VQ_n VM_n
    refine hK.out _ _ ?_ (fun hH6 => ?_)
    ·exact ⟨VA.1,VA.2.1,VA.2.2.1⟩
    clear hK K hH5
    (try simp only [Act.put,xL4,xL5,xL6])
    refine wpAnyH_done (by kernel_rfl) ?_ _
    clear hH6
    have hKp := VR.keepJ (.bool pq) (.slice aq nq cq)
    have hz_n := hz.keep hKp
    have hx_n := hx.keep hKp
    have h1_n := h1.keep hKp
    have hq_n := hq.keep hKp
    have hr_n := hr.keep hKp
    have BB_n := below_store2 (R := w.heap.size + 1) BB (by omega) (.bool pq) (.slice aq nq cq)
    clear hKp
    obtain ⟨VQ_0,VQ_1,VQ_2,VQ_3⟩ := id VQ
    obtain ⟨q1,q2,q3,q4⟩ := id VR
    go_wp2
    (try simp only [Exit.inBlock,Exit.then])
    refine bodyPost_ret (v := .agg #[.bool pq,.slice aq nq cq]) (by simp [results,go_sem,q1,q2]) rfl ?_
    exact ⟨_,rfl,hq_n,BB_n⟩
   exact AllReadyH.nil
  refine xC (h := fun K hK => ?_) (hs := ?_)
  ·
   go_simp
   have hZ17 : w.heap.size ≤ w1.heap.size := BB.size
   have hN17VA : w.heap.size ≠ w1.heap.size := Nat.ne_of_lt VA.lt
   have hN17VR : w.heap.size + 1 ≠ w1.heap.size := Nat.ne_of_lt VR.lt
   obtain ⟨W17,hW17,hS17,hL17,VM⟩ := V2.lay w1 36 (.bool false) (.slice none 0 0)
   replace hz := hz.below hL17
   replace hx := hx.below hL17
   replace h1 := h1.below hL17
   replace VA := VA.below hL17
   replace VR := VR.below hL17
   replace BB := BB.trans (hL17.mono BB.size)
   clear hL17
   rw [← hW17]
   generalize w1.heap.size = R17 at *
   clear hW17 hS17
   refine hK.out _ _ ?_ (fun hH2 => ?_)
   ·exact ⟨VA.1,VA.2.1,VA.2.2.1⟩
   clear hK K hH1
   (try simp only [Act.put,xL4,xL5,xL6])
   refine xR [4,8] (h := ?_)
   refine xC (h := fun K hK => ?_) (hs := ?_)
   ·
    go_simp
    refine (rover_any _ _ z (x : Int) _ hz h1 (by omega) l3 l4).mono ?_
    rintro e w5 ⟨e2,e3,rfl,hq,hr,b5⟩
    obtain ⟨pq,aq,nq,cq,rfl⟩ := hq.open
    obtain ⟨pr,ar,nr,cr,rfl⟩ := hr.open
    go_wp2_with fail
    replace hz := hz.below b5
    replace hx := hx.below b5
    replace h1 := h1.below b5
    replace VA := VA.below b5
    replace VR := VR.below b5
    replace VM := VM.below b5
    replace BB := BB.trans (b5.mono BB.size)
    clear b5
    refine hK.out _ _ ?_ (fun hH3 => ?_)
    ·exact ⟨VA.1,VA.2.1,VA.2.2.1⟩
    clear hK K hH2
    (try simp only [Act.put,xL4,xL5,xL6])
    refine xT 5 (v := ?_) (hy := Or.inl ⟨by rfl,?_⟩) (h := ?_)
    rotate_left
    ·(intro w hSw; (try dsimp only at hSw); go_simp; (try with_reducible rfl))
    (try simp only [Act.put,xL4,xL5,xL6])
    refine xT 6 (v := ?_) (hy := Or.inl ⟨by rfl,?_⟩) (h := ?_)
    rotate_left
    ·(intro w hSw; (try dsimp only at hSw); go_simp; (try with_reducible rfl))
    (try simp only [Act.put,xL4,xL5,xL6])
    refine xT 7 (v := ?_) (hy := Or.inl ⟨by rfl,?_⟩) (h := ?_)
    rotate_left
    ·(intro w hSw; (try dsimp only at hSw); go_simp; (try with_reducible rfl))
    (try simp only [Act.put,xL4,xL5,xL6])
    refine xR [8] (h := ?_)
    refine xN (h := fun K hK => ?_)
    go_simp
    have hZ18 : w.heap.size ≤ w5.heap.size := BB.size
    have hN18VA : w.heap.size ≠ w5.heap.size := Nat.ne_of_lt VA.lt
    have hN18VR : w.heap.size + 1 ≠ w5.heap.size := Nat.ne_of_lt VR.lt
    have hN18VM : R17 ≠ w5.heap.size := Nat.ne_of_lt VM.lt
    obtain ⟨W18,hW18,hS18,hL18,VQ⟩ := V2.lay w5 36 (.bool false) (.slice none 0 0)
    replace hz := hz.below hL18
    replace hx := hx.below hL18
    replace h1 := h1.below hL18
    replace hq := hq.below hL18
    replace hr := hr.below hL18
    replace VA := VA.below hL18
    replace VR := VR.below hL18
    replace VM := VM.below hL18
    replace BB := BB.trans (hL18.mono BB.size)
    clear hL18
    rw [← hW18]
    generalize w5.heap.size = R18 at *
    clear hW18 hS18
    refine hK.out _ _ ?_ (fun hH4 => ?_)
    ·exact ⟨VA.1,VA.2.1,VA.2.2.1⟩
    clear hK K hH3
    (try simp only [Act.put,xL4,xL5,xL6])
    refine xR [10] (h := ?_)
    refine xN (h := fun K hK => ?_)
    have hKp := VQ.keepJ (.bool pq) (.slice aq nq cq)
    have VA_n := VA.other2 (R := R18) (by omega) (.bool pq) (.slice aq nq cq)
    have VR_n := VR.other (R := R18) (by omega) (.bool pq) (.slice aq nq cq)
    have VM_n := VM.other (R := R18) (by omega) (.bool pq) (.slice aq nq cq)
    have VQ_n := VQ.same (.bool pq) (.slice aq nq cq)
    have hz_n := hz.keep hKp
    have hx_n := hx.keep hKp
    have h1_n := h1.keep hKp
    have hq_n := hq.keep hKp
    have hr_n := hr.keep hKp
    have BB_n := below_store2 (R := R18) BB (by omega) (.bool pq) (.slice aq nq cq)
    clear hKp
    obtain ⟨VQ_0,VQ_1,VQ_2,VQ_3⟩ := id VQ
    go_simp
    clear VQ_0 VQ_1 VQ_2 VQ_3
    clear BB hz hx h1 hq hr VA VR VM VQ
    generalize (W18.setCell ⟨R18,0,none⟩ (.bool pq)).setCell ⟨R18,1,none⟩ (.slice aq nq cq) = W19 at *
    have BB := BB_n
    have hz := hz_n
    have hx := hx_n
    have h1 := h1_n
    have hq := hq_n
    have hr := hr_n
    have VA := VA_n
    have VR := VR_n
    have VM := VM_n
    have VQ := VQ_n
    clear BB_n hz_n hx_n h1_n hq_n hr_n VA_n VR_n VM_n VQ_n
    refine hK.out _ _ ?_ (fun hH5 => ?_)
    ·exact ⟨VA.1,VA.2.1,VA.2.2.1⟩
    clear hK K hH4
    (try simp only [Act.put,xL4,xL5,xL6])
    refine xR [11] (h := ?_)
    refine xN (h := fun K hK => ?_)
    have hKp := VM.keepJ (.bool pr) (.slice ar nr cr)
    have VA_n := VA.other2 (R := R17) (by omega) (.bool pr) (.slice ar nr cr)
    have VR_n := VR.other (R := R17) (by omega) (.bool pr) (.slice ar nr cr)
    have VQ_n := VQ.other (R := R17) (by omega) (.bool pr) (.slice ar nr cr)
    have VM_n := VM.same (.bool pr) (.slice ar nr cr)
    have hz_n := hz.keep hKp
    have hx_n := hx.keep hKp
    have h1_n := h1.keep hKp
    have hq_n := hq.keep hKp
    have hr_n := hr.keep hKp
    have BB_n := below_store2 (R := R17) BB (by omega) (.bool pr) (.slice ar nr cr)
    clear hKp
    obtain ⟨VM_0,VM_1,VM_2,VM_3⟩ := id VM
    go_simp
    clear VM_0 VM_1 VM_2 VM_3
    clear BB hz hx h1 hq hr VA VR VM VQ
    generalize (W19.setCell ⟨R17,0,none⟩ (.bool pr)).setCell ⟨R17,1,none⟩ (.slice ar nr cr) = W20 at *
    have BB := BB_n
    have hz := hz_n
    have hx := hx_n
    have h1 := h1_n
    have hq := hq_n
    have hr := hr_n
    have VA := VA_n
    have VR := VR_n
    have VM := VM_n
    have VQ := VQ_n
    clear BB_n hz_n hx_n h1_n hq_n hr_n VA_n VR_n VM_n VQ_n
    refine hK.out _ _ ?_ (fun hH6 => ?_)
    ·exact ⟨VA.1,VA.2.1,VA.2.2.1⟩
    clear hK K hH5
    (try simp only [Act.put,xL4,xL5,xL6])
    refine wpAnyH_done (by kernel_rfl) ?_ _
    clear hH6
    have hKp := VR.keepJ (.bool pq) (.slice aq nq cq)
    have hz_n := hz.keep hKp
    have hx_n := hx.keep hKp
    have h1_n := h1.keep hKp
    have hq_n := hq.keep hKp
    have hr_n := hr.keep hKp
    have BB_n := below_store2 (R := w.heap.size + 1) BB (by omega) (.bool pq) (.slice aq nq cq)
    clear hKp
    obtain ⟨VQ_0,VQ_1,VQ_2,VQ_3⟩ := id VQ
    obtain ⟨q1,q2,q3,q4⟩ := id VR
    go_wp2
    (try simp only [Exit.inBlock,Exit.then])
    refine bodyPost_ret (v := .agg #[.bool pq,.slice aq nq cq]) (by simp [results,go_sem,q1,q2]) rfl ?_
    exact ⟨_,rfl,hq_n,BB_n⟩
   refine xC (h := fun K hK => ?_) (hs := ?_)
   ·
    go_simp
    have hZ21 : w.heap.size ≤ W17.heap.size := BB.size
    have hN21VA : w.heap.size ≠ W17.heap.size := Nat.ne_of_lt VA.lt
    have hN21VR : w.heap.size + 1 ≠ W17.heap.size := Nat.ne_of_lt VR.lt
    have hN21VM : R17 ≠ W17.heap.size := Nat.ne_of_lt VM.lt
    obtain ⟨W21,hW21,hS21,hL21,VQ⟩ := V2.lay W17 36 (.bool false) (.slice none 0 0)
    replace hz := hz.below hL21
    replace hx := hx.below hL21
    replace h1 := h1.below hL21
    replace VA := VA.below hL21
    replace VR := VR.below hL21
    replace VM := VM.below hL21
    replace BB := BB.trans (hL21.mono BB.size)
    clear hL21
    rw [← hW21]
    generalize W17.heap.size = R21 at *
    clear hW21 hS21
    refine hK.out _ _ ?_ (fun hH3 => ?_)
    ·exact ⟨VA.1,VA.2.1,VA.2.2.1⟩
    clear hK K hH2
    (try simp only [Act.put,xL4,xL5,xL6])
    refine xR [4] (h := ?_)
    refine xN (h := fun K hK => ?_)
    go_simp
    refine (rover_any _ _ z (x : Int) _ hz h1 (by omega) l3 l4).mono ?_
    rintro e w6 ⟨e2,e3,rfl,hq,hr,b6⟩
    obtain ⟨pq,aq,nq,cq,rfl⟩ := hq.open
    obtain ⟨pr,ar,nr,cr,rfl⟩ := hr.open
    go_wp2_with fail
    replace hz := hz.below b6
    replace hx := hx.below b6
    replace h1 := h1.below b6
    replace VA := VA.below b6
    replace VR := VR.below b6
    replace VM := VM.below b6
    replace VQ := VQ.below b6
    replace BB := BB.trans (b6.mono BB.size)
    clear b6
    refine hK.out _ _ ?_ (fun hH4 => ?_)
    ·exact ⟨VA.1,VA.2.1,VA.2.2.1⟩
    clear hK K hH3
    (try simp only [Act.put,xL4,xL5,xL6])
    refine xT 5 (v := ?_) (hy := Or.inl ⟨by rfl,?_⟩) (h := ?_)
    rotate_left
    ·(intro w hSw; (try dsimp only at hSw); go_simp; (try with_reducible rfl))
    (try simp only [Act.put,xL4,xL5,xL6])
    refine xT 6 (v := ?_) (hy := Or.inl ⟨by rfl,?_⟩) (h := ?_)
    rotate_left
    ·(intro w hSw; (try dsimp only at hSw); go_simp; (try with_reducible rfl))
    (try simp only [Act.put,xL4,xL5,xL6])
    refine xT 7 (v := ?_) (hy := Or.inl ⟨by rfl,?_⟩) (h := ?_)
    rotate_left
    ·(intro w hSw; (try dsimp only at hSw); go_simp; (try with_reducible rfl))
    (try simp only [Act.put,xL4,xL5,xL6])
    refine xR [10] (h := ?_)
    refine xN (h := fun K hK => ?_)
    have hKp := VQ.keepJ (.bool pq) (.slice aq nq cq)
    have VA_n := VA.other2 (R := R21) (by omega) (.bool pq) (.slice aq nq cq)
    have VR_n := VR.other (R := R21) (by omega) (.bool pq) (.slice aq nq cq)
    have VM_n := VM.other (R := R21) (by omega) (.bool pq) (.slice aq nq cq)
    have VQ_n := VQ.same (.bool pq) (.slice aq nq cq)
    have hz_n := hz.keep hKp
    have hx_n := hx.keep hKp
    have h1_n := h1.keep hKp
    have hq_n := hq.keep hKp
    have hr_n := hr.keep hKp
    have BB_n := below_store2 (R := R21) BB (by omega) (.bool pq) (.slice aq nq cq)
    clear hKp
    obtain ⟨VQ_0,VQ_1,VQ_2,VQ_3⟩ := id VQ
    go_simp
    clear VQ_0 VQ_1 VQ_2 VQ_3
    clear BB hz hx h1 hq hr VA VR VM VQ
    generalize (w6.setCell ⟨R21,0,none⟩ (.bool pq)).setCell ⟨R21,1,none⟩ (.slice aq nq cq) = W22 at *
    have BB := BB_n
    have hz := hz_n
    have hx := hx_n
    have h1 := h1_n
    have hq := hq_n
    have hr := hr_n
    have VA := VA_n
    have VR := VR_n
    have VM := VM_n
    have VQ := VQ_n
    clear BB_n hz_n hx_n h1_n hq_n hr_n VA_n VR_n VM_n VQ_n
    refine hK.out _ _ ?_ (fun hH5 => ?_)
    ·exact ⟨VA.1,VA.2.1,VA.2.2.1⟩
    clear hK K hH4
    (try simp only [Act.put,xL4,xL5,xL6])
    refine xR [11] (h := ?_)
    refine xN (h := fun K hK => ?_)
    have hKp := VM.keepJ (.bool pr) (.slice ar nr cr)
    have VA_n := VA.other2 (R := R17) (by omega) (.bool pr) (.slice ar nr cr)
    have VR_n := VR.other (R := R17) (by omega) (.bool pr) (.slice ar nr cr)
    have VQ_n := VQ.other (R := R17) (by omega) (.bool pr) (.slice ar nr cr)
    have VM_n := VM.same (.bool pr) (.slice ar nr cr)
    have hz_n := hz.keep hKp
    have hx_n := hx.keep hKp
    have h1_n := h1.keep hKp
    have hq_n := hq.keep hKp
    have hr_n := hr.keep hKp
    have BB_n := below_store2 (R := R17) BB (by omega) (.bool pr) (.slice ar nr cr)
    clear hKp
    obtain ⟨VM_0,VM_1,VM_2,VM_3⟩ := id VM
    go_simp
    clear VM_0 VM_1 VM_2 VM_3
    clear BB hz hx h1 hq hr VA VR VM VQ
    generalize (W22.setCell ⟨R17,0,none⟩ (.bool pr)).setCell ⟨R17,1,none⟩ (.slice ar nr cr) = W23 at *
    have BB := BB_n
    have hz := hz_n
    have hx := hx_n
    have h1 := h1_n
    have hq := hq_n
    have hr := hr_n
    have VA := VA_n
    have VR := VR_n
    have VM := VM_n
    have VQ := VQ_n
    clear BB_n hz_n hx_n h1_n hq_n hr_n VA_n VR_n VM_n VQ_n
    refine hK.out _ _ ?_ (fun hH6 => ?_)
    ·exact ⟨VA.1,VA.2.1,VA.2.2.1⟩
    clear hK K hH5
    (try simp only [Act.put,xL4,xL5,xL6])
    refine wpAnyH_done (by kernel_rfl) ?_ _
    clear hH6
    have hKp := VR.keepJ (.bool pq) (.slice aq nq cq)
    have hz_n := hz.keep hKp
    have hx_n := hx.keep hKp
    have h1_n := h1.keep hKp
    have hq_n := hq.keep hKp
    have hr_n := hr.keep hKp
    have BB_n := below_store2 (R := w.heap.size + 1) BB (by omega) (.bool pq) (.slice aq nq cq)
    clear hKp
    obtain ⟨VQ_0,VQ_1,VQ_2,VQ_3⟩ := id VQ
    obtain ⟨q1,q2,q3,q4⟩ := id VR
    go_wp2
    (try simp only [Exit.inBlock,Exit.then])
    refine bodyPost_ret (v := .agg #[.bool pq,.slice aq nq cq]) (by simp [results,go_sem,q1,q2]) rfl ?_
    exact ⟨_,rfl,hq_n,BB_n⟩
   exact AllReadyH.nil
  exact AllReadyH.nil
 refine xC (h := fun K hK => ?_) (hs := ?_)
 ·
  go_simp
  have hZ24 : w.heap.size ≤ W1.heap.size := BB.size
  have hN24VA : w.heap.size ≠ W1.heap.size := Nat.ne_of_lt VA.lt
  have hN24VR : w.heap.size + 1 ≠ W1.heap.size := Nat.ne_of_lt VR.lt
  obtain ⟨W24,hW24,hS24,hL24,VQ⟩ := V2.lay W1 36 (.bool false) (.slice none 0 0)
  replace hz := hz.below hL24
  replace hx := hx.below hL24
  replace VA := VA.below hL24
  replace VR := VR.below hL24
  replace BB := BB.trans (hL24.mono BB.size)
  clear hL24
  rw [← hW24]
  generalize W1.heap.size = R24 at *
  clear hW24 hS24
  refine hK.out _ _ ?_ (fun hH1 => ?_)
  ·exact ⟨VA.1,VA.2.1,VA.2.2.1⟩
  clear hK K hHeld
  (try simp only [Act.put,xL4,xL5,xL6])
  refine xR [3,9] (h := ?_)
  refine xC (h := fun K hK => ?_) (hs := ?_)
  ·
   go_simp
   refine (den_at p ao n c bo m d x _ hx).mono ?_
   rintro e w7 ⟨e1,rfl,h1,b7⟩
   go_wp2_with fail
   replace hz := hz.below b7
   replace hx := hx.below b7
   replace VA := VA.below b7
   replace VR := VR.below b7
   replace VQ := VQ.below b7
   replace BB := BB.trans (b7.mono BB.size)
   clear b7
   refine hK.out _ _ ?_ (fun hH2 => ?_)
   ·exact ⟨VA.1,VA.2.1,VA.2.2.1⟩
   clear hK K hH1
   (try simp only [Act.put,xL4,xL5,xL6])
   refine xR [4,9] (h := ?_)
   refine xC (h := fun K hK => ?_) (hs := ?_)
   ·
    go_simp
    refine (rover_any _ _ z (x : Int) _ hz h1 (by omega) l3 l4).mono ?_
    rintro e w8 ⟨e2,e3,rfl,hq,hr,b8⟩
    obtain ⟨pq,aq,nq,cq,rfl⟩ := hq.open
    obtain ⟨pr,ar,nr,cr,rfl⟩ := hr.open
    go_wp2_with fail
    replace hz := hz.below b8
    replace hx := hx.below b8
    replace h1 := h1.below b8
    replace VA := VA.below b8
    replace VR := VR.below b8
    replace VQ := VQ.below b8
    replace BB := BB.trans (b8.mono BB.size)
    clear b8
    refine hK.out _ _ ?_ (fun hH3 => ?_)
    ·exact ⟨VA.1,VA.2.1,VA.2.2.1⟩
    clear hK K hH2
    (try simp only [Act.put,xL4,xL5,xL6])
    refine xT 5 (v := ?_) (hy := Or.inl ⟨by rfl,?_⟩) (h := ?_)
    rotate_left
    ·(intro w hSw; (try dsimp only at hSw); go_simp; (try with_reducible rfl))
    (try simp only [Act.put,xL4,xL5,xL6])
    refine xT 6 (v := ?_) (hy := Or.inl ⟨by rfl,?_⟩) (h := ?_)
    rotate_left
    ·(intro w hSw; (try dsimp only at hSw); go_simp; (try with_reducible rfl))
    (try simp only [Act.put,xL4,xL5,xL6])
    refine xT 7 (v := ?_) (hy := Or.inl ⟨by rfl,?_⟩) (h := ?_)
    rotate_left
    ·(intro w hSw; (try dsimp only at hSw); go_simp; (try with_reducible rfl))
    (try simp only [Act.put,xL4,xL5,xL6])
    refine xR [9] (h := ?_)
    refine xN (h := fun K hK => ?_)
    go_simp
    have hZ25 : w.heap.size ≤ w8.heap.size := BB.size
    have hN25VA : w.heap.size ≠ w8.heap.size := Nat.ne_of_lt VA.lt
    have hN25VR : w.heap.size + 1 ≠ w8.heap.size := Nat.ne_of_lt VR.lt
    have hN25VQ : R24 ≠ w8.heap.size := Nat.ne_of_lt VQ.lt
    obtain ⟨W25,hW25,hS25,hL25,VM⟩ := V2.lay w8 36 (.bool false) (.slice none 0 0)
    replace hz := hz.below hL25
    replace hx := hx.below hL25
    replace h1 := h1.below hL25
    replace hq := hq.below hL25
    replace hr := hr.below hL25
    replace VA := VA.below hL25
    replace VR := VR.below hL25
    replace VQ := VQ.below hL25
    replace BB := BB.trans (hL25.mono BB.size)
    clear hL25
    rw [← hW25]
    generalize w8.heap.size = R25 at *
    clear hW25 hS25
    refine hK.out _ _ ?_ (fun hH4 => ?_)
    ·exact ⟨VA.1,VA.2.1,VA.2.2.1⟩
    clear hK K hH3
    (try simp only [Act.put,xL4,xL5,xL6])
    refine xR [10] (h := ?_)
    refine xN (h := fun K hK => ?_)
    have hKp := VQ.keepJ (.bool pq) (.slice aq nq cq)
    have VA_n := VA.other2 (R := R24) (by omega) (.bool pq) (.slice aq nq cq)
    have VR_n := VR.other (R := R24) (by omega) (.bool pq) (.slice aq nq cq)
    have VM_n := VM.other (R := R24) (by omega) (.bool pq) (.slice aq nq cq)
    have VQ_n := VQ.same (.bool pq) (.slice aq nq cq)
    have hz_n := hz.keep hKp
    have hx_n := hx.keep hKp
    have h1_n := h1.keep hKp
    have hq_n := hq.keep hKp
    have hr_n := hr.keep hKp
    have BB_n := below_store2 (R := R24) BB (by omega) (.bool pq) (.slice aq nq cq)
    clear hKp
    obtain ⟨VQ_0,VQ_1,VQ_2,VQ_3⟩ := id VQ
    go_simp
    clear VQ_0 VQ_1 VQ_2 VQ_3
    clear BB hz hx h1 hq hr VA VR VQ VM
    generalize (W25.setCell ⟨R24,0,none⟩ (.bool pq)).setCell ⟨R24,1,none⟩ (.slice aq nq cq) = W26 at *
    have BB := BB_n
    have hz := hz_n
    have hx := hx_n
    have h1 := h1_n
    have hq := hq_n
    have hr := hr_n
    have VA := VA_n
    have VR := VR_n
    have VQ := VQ_n
    have VM := VM_n
    clear BB_n hz_n hx_n h1_n hq_n hr_n VA_n VR_n VQ_n VM_n
    refine hK.out _ _ ?_ (fun hH5 => ?_)
    ·exact ⟨VA.1,VA.2.1,VA.2.2.1⟩
    clear hK K hH4
    (try simp only [Act.put,xL4,xL5,xL6])
    refine xR [11] (h := ?_)
    refine xN (h := fun K hK => ?_)
    have hKp := VM.keepJ (.bool pr) (.slice ar nr cr)
    have VA_n := VA.other2 (R := R25) (by omega) (.bool pr) (.slice ar nr cr)
    have VR_n := VR.other (R := R25) (by omega) (.bool pr) (.slice ar nr cr)
    have VQ_n := VQ.other (R := R25) (by omega) (.bool pr) (.slice ar nr cr)
    have VM_n := VM.same (.bool pr) (.slice ar nr cr)
    have hz_n := hz.keep hKp
    have hx_n := hx.keep hKp
    have h1_n := h1.keep hKp
    have hq_n := hq.keep hKp
    have hr_n := hr.keep hKp
    have BB_n := below_store2 (R := R25) BB (by omega) (.bool pr) (.slice ar nr cr)
    clear hKp
    obtain ⟨VM_0,VM_1,VM_2,VM_3⟩ := id VM
    go_simp
    clear VM_0 VM_1 VM_2 VM_3
    clear BB hz hx h1 hq hr VA VR VQ VM
    generalize (W26.setCell ⟨R25,0,none⟩ (.bool pr)).setCell ⟨R25,1,none⟩ (.slice ar nr cr) = W27 at *
    have BB := BB_n
    have hz := hz_n
    have hx := hx_n
    have h1 := h1_n
    have hq := hq_n
    have hr := hr_n
    have VA := VA_n
    have VR := VR_n
    have VQ := VQ_n
    have VM := VM_n
    clear BB_n hz_n hx_n h1_n hq_n hr_n VA_n VR_n VQ_n VM_n
    refine hK.out _ _ ?_ (fun hH6 => ?_)
    ·exact ⟨VA.1,VA.2.1,VA.2.2.1⟩
    clear hK K hH5
    (try simp only [Act.put,xL4,xL5,xL6])
    refine wpAnyH_done (by kernel_rfl) ?_ _
    clear hH6
    have hKp := VR.keepJ (.bool pq) (.slice aq nq cq)
    have hz_n := hz.keep hKp
    have hx_n := hx.keep hKp
    have h1_n := h1.keep hKp
    have hq_n := hq.keep hKp
    have hr_n := hr.keep hKp
    have BB_n := below_store2 (R := w.heap.size + 1) BB (by omega) (.bool pq) (.slice aq nq cq)
    clear hKp
    obtain ⟨VQ_0,VQ_1,VQ_2,VQ_3⟩ := id VQ
    obtain ⟨q1,q2,q3,q4⟩ := id VR
    go_wp2
    (try simp only [Exit.inBlock,Exit.then])
    refine bodyPost_ret (v := .agg #[.bool pq,.slice aq nq cq]) (by simp [results,go_sem,q1,q2]) rfl ?_
    exact ⟨_,rfl,hq_n,BB_n⟩
   refine xC (h := fun K hK => ?_) (hs := ?_)
   ·
    go_simp
    have hZ28 : w.heap.size ≤ w7.heap.size := BB.size
    have hN28VA : w.heap.size ≠ w7.heap.size := Nat.ne_of_lt VA.lt
    have hN28VR : w.heap.size + 1 ≠ w7.heap.size := Nat.ne_of_lt VR.lt
    have hN28VQ : R24 ≠ w7.heap.size := Nat.ne_of_lt VQ.lt
    obtain ⟨W28,hW28,hS28,hL28,VM⟩ := V2.lay w7 36 (.bool false) (.slice none 0 0)
    replace hz := hz.below hL28
    replace hx := hx.below hL28
    replace h1 := h1.below hL28
    replace VA := VA.below hL28
    replace VR := VR.below hL28
    replace VQ := VQ.below hL28
    replace BB := BB.trans (hL28.mono BB.size)
    clear hL28
    rw [← hW28]
    generalize w7.heap.size = R28 at *
    clear hW28 hS28
    refine hK.out _ _ ?_ (fun hH3 => ?_)
    ·exact ⟨VA.1,VA.2.1,VA.2.2.1⟩
    clear hK K hH2
    (try simp only [Act.put,xL4,xL5,xL6])
    refine xR [4] (h := ?_)
    refine xN (h := fun K hK => ?_)
    go_simp
    refine (rover_any _ _ z (x : Int) _ hz h1 (by omega) l3 l4).mono ?_
    rintro e w9 ⟨e2,e3,rfl,hq,hr,b9⟩
    obtain ⟨pq,aq,nq,cq,rfl⟩ := hq.open
    obtain ⟨pr,ar,nr,cr,rfl⟩ := hr.open
    go_wp2_with fail
    replace hz := hz.below b9
    replace hx := hx.below b9
    replace h1 := h1.below b9
    replace VA := VA.below b9
    replace VR := VR.below b9
    replace VQ := VQ.below b9
    replace VM := VM.below b9
    replace BB := BB.trans (b9.mono BB.size)
    clear b9
    refine hK.out _ _ ?_ (fun hH4 => ?_)
    ·exact ⟨VA.1,VA.2.1,VA.2.2.1⟩
    clear hK K hH3
    (try simp only [Act.put,xL4,xL5,xL6])
    refine xT 5 (v := ?_) (hy := Or.inl ⟨by rfl,?_⟩) (h := ?_)
    rotate_left
    ·(intro w hSw; (try dsimp only at hSw); go_simp; (try with_reducible rfl))
    (try simp only [Act.put,xL4,xL5,xL6])
    refine xT 6 (v := ?_) (hy := Or.inl ⟨by rfl,?_⟩) (h := ?_)
    rotate_left
    ·(intro w hSw; (try dsimp only at hSw); go_simp; (try with_reducible rfl))
    (try simp only [Act.put,xL4,xL5,xL6])
    refine xT 7 (v := ?_) (hy := Or.inl ⟨by rfl,?_⟩) (h := ?_)
    rotate_left
    ·(intro w hSw; (try dsimp only at hSw); go_simp; (try with_reducible rfl))
    (try simp only [Act.put,xL4,xL5,xL6])
    refine xR [10] (h := ?_)
    refine xN (h := fun K hK => ?_)
    have hKp := VQ.keepJ (.bool pq) (.slice aq nq cq)
    have VA_n := VA.other2 (R := R24) (by omega) (.bool pq) (.slice aq nq cq)
    have VR_n := VR.other (R := R24) (by omega) (.bool pq) (.slice aq nq cq)
    have VM_n := VM.other (R := R24) (by omega) (.bool pq) (.slice aq nq cq)
    have VQ_n := VQ.same (.bool pq) (.slice aq nq cq)
    have hz_n := hz.keep hKp
    have hx_n := hx.keep hKp
    have h1_n := h1.keep hKp
    have hq_n := hq.keep hKp
    have hr_n := hr.keep hKp
    have BB_n := below_store2 (R := R24) BB (by omega) (.bool pq) (.slice aq nq cq)
    clear hKp
    obtain ⟨VQ_0,VQ_1,VQ_2,VQ_3⟩ := id VQ
    go_simp
    clear VQ_0 VQ_1 VQ_2 VQ_3
    clear BB hz hx h1 hq hr VA VR VQ VM
    generalize (w9.setCell ⟨R24,0,none⟩ (.bool pq)).setCell ⟨R24,1,none⟩ (.slice aq nq cq) = W29 at *
    have BB := BB_n
    have hz := hz_n
    have hx := hx_n
    have h1 := h1_n
    have hq := hq_n
    have hr := hr_n
    have VA := VA_n
    have VR := VR_n
    have VQ := VQ_n
    have VM := VM_n
    clear BB_n hz_n hx_n h1_n hq_n hr_n VA_n VR_n VQ_n VM_n
    refine hK.out _ _ ?_ (fun hH5 => ?_)
    ·exact ⟨VA.1,VA.2.1,VA.2.2.1⟩
    clear hK K hH4
    (try simp only [Act.put,xL4,xL5,xL6])
    refine xR [11] (h := ?_)
    refine xN (h := fun K hK => ?_)
    have hKp := VM.keepJ (.bool pr) (.slice ar nr cr)
    have VA_n := VA.other2 (R := R28) (by omega) (.bool pr) (.slice ar nr cr)
    have VR_n := VR.other (R := R28) (by omega) (.bool pr) (.slice ar nr cr)
    have VQ_n := VQ.other (R := R28) (by omega) (.bool pr) (.slice ar nr cr)
    have VM_n := VM.same (.bool pr) (.slice ar nr cr)
    have hz_n := hz.keep hKp
    have hx_n := hx.keep hKp
    have h1_n := h1.keep hKp
    have hq_n := hq.keep hKp
    have hr_n := hr.keep hKp
    have BB_n := below_store2 (R := R28) BB (by omega) (.bool pr) (.slice ar nr cr)
    clear hKp
    obtain ⟨VM_0,VM_1,VM_2,VM_3⟩ := id VM
    go_simp
    clear VM_0 VM_1 VM_2 VM_3
    clear BB hz hx h1 hq hr VA VR VQ VM
    generalize (W29.setCell ⟨R28,0,none⟩ (.bool pr)).setCell ⟨R28,1,none⟩ (.slice ar nr cr) = W30 at *
    have BB := BB_n
    have hz := hz_n
    have hx := hx_n
    have h1 := h1_n
    have hq := hq_n
    have hr := hr_n
    have VA := VA_n
    have VR := VR_n
    have VQ := VQ_n
    have VM := VM_n
    clear BB_n hz_n hx_n h1_n hq_n hr_n VA_n VR_n VQ_n VM_n
    refine hK.out _ _ ?_ (fun hH6 => ?_)
    ·exact ⟨VA.1,VA.2.1,VA.2.2.1⟩
    clear hK K hH5
    (try simp only [Act.put,xL4,xL5,xL6])
    refine wpAnyH_done (by kernel_rfl) ?_ _
    clear hH6
    have hKp := VR.keepJ (.bool pq) (.slice aq nq cq)
    have hz_n := hz.keep hKp
    have hx_n := hx.keep hKp
    have h1_n := h1.keep hKp
    have hq_n := hq.keep hKp
    have hr_n := hr.keep hKp
    have BB_n := below_store2 (R := w.heap.size + 1) BB (by omega) (.bool pq) (.slice aq nq cq)
    clear hKp
    obtain ⟨VQ_0,VQ_1,VQ_2,VQ_3⟩ := id VQ
    obtain ⟨q1,q2,q3,q4⟩ := id VR
    go_wp2
    (try simp only [Exit.inBlock,Exit.then])
    refine bodyPost_ret (v := .agg #[.bool pq,.slice aq nq cq]) (by simp [results,go_sem,q1,q2]) rfl ?_
    exact ⟨_,rfl,hq_n,BB_n⟩
   exact AllReadyH.nil
  refine xC (h := fun K hK => ?_) (hs := ?_)
  ·
   go_simp
   have hZ31 : w.heap.size ≤ W24.heap.size := BB.size
   have hN31VA : w.heap.size ≠ W24.heap.size := Nat.ne_of_lt VA.lt
   have hN31VR : w.heap.size + 1 ≠ W24.heap.size := Nat.ne_of_lt VR.lt
   have hN31VQ : R24 ≠ W24.heap.size := Nat.ne_of_lt VQ.lt
   obtain ⟨W31,hW31,hS31,hL31,VM⟩ := V2.lay W24 36 (.bool false) (.slice none 0 0)
   replace hz := hz.below hL31
   replace hx := hx.below hL31
   replace VA := VA.below hL31
   replace VR := VR.below hL31
   replace VQ := VQ.below hL31
   replace BB := BB.trans (hL31.mono BB.size)
   clear hL31
   rw [← hW31]
   generalize W24.heap.size = R31 at *
   clear hW31 hS31
   refine hK.out _ _ ?_ (fun hH2 => ?_)
   ·exact ⟨VA.1,VA.2.1,VA.2.2.1⟩
   clear hK K hH1
   (try simp only [Act.put,xL4,xL5,xL6])
   refine xR [3] (h := ?_)
   refine xN (h := fun K hK => ?_)
   go_simp
   refine (den_at p ao n c bo m d x _ hx).mono ?_
   rintro e w10 ⟨e1,rfl,h1,b10⟩
   go_wp2_with fail
   replace hz := hz.below b10
   replace hx := hx.below b10
   replace VA := VA.below b10
   replace VR := VR.below b10
   replace VQ := VQ.below b10
   replace VM := VM.below b10
   replace BB := BB.trans (b10.mono BB.size)
   clear b10
   refine hK.out _ _ ?_ (fun hH3 => ?_)
   ·exact ⟨VA.1,VA.2.1,VA.2.2.1⟩
   clear hK K hH2
   (try simp only [Act.put,xL4,xL5,xL6])
   refine xR [4] (h := ?_)
   refine xN (h := fun K hK => ?_)
   go_simp
   refine (rover_any _ _ z (x : Int) _ hz h1 (by omega) l3 l4).mono ?_
   rintro e w11 ⟨e2,e3,rfl,hq,hr,b11⟩
   obtain ⟨pq,aq,nq,cq,rfl⟩ := hq.open
   obtain ⟨pr,ar,nr,cr,rfl⟩ := hr.open
   go_wp2_with fail
   replace hz := hz.below b11
   replace hx := hx.below b11
   replace h1 := h1.below b11
   replace VA := VA.below b11
   replace VR := VR.below b11
   replace VQ := VQ.below b11
   replace VM := VM.below b11
   replace BB := BB.trans (b11.mono BB.size)
   clear b11
   refine hK.out _ _ ?_ (fun hH4 => ?_)
   ·exact ⟨VA.1,VA.2.1,VA.2.2.1⟩
   clear hK K hH3
   (try simp only [Act.put,xL4,xL5,xL6])
   refine xT 5 (v := ?_) (hy := Or.inl ⟨by rfl,?_⟩) (h := ?_)
   rotate_left
   ·(intro w hSw; (try dsimp only at hSw); go_simp; (try with_reducible rfl))
   (try simp only [Act.put,xL4,xL5,xL6])
   refine xT 6 (v := ?_) (hy := Or.inl ⟨by rfl,?_⟩) (h := ?_)
   rotate_left
   ·(intro w hSw; (try dsimp only at hSw); go_simp; (try with_reducible rfl))
   (try simp only [Act.put,xL4,xL5,xL6])
   refine xT 7 (v := ?_) (hy := Or.inl ⟨by rfl,?_⟩) (h := ?_)
   rotate_left
   ·(intro w hSw; (try dsimp only at hSw); go_simp; (try with_reducible rfl))
   (try simp only [Act.put,xL4,xL5,xL6])
   refine xR [10] (h := ?_)
   refine xN (h := fun K hK => ?_)
   have hKp := VQ.keepJ (.bool pq) (.slice aq nq cq)
   have VA_n := VA.other2 (R := R24) (by omega) (.bool pq) (.slice aq nq cq)
   have VR_n := VR.other (R := R24) (by omega) (.bool pq) (.slice aq nq cq)
   have VM_n := VM.other (R := R24) (by omega) (.bool pq) (.slice aq nq cq)
   have VQ_n := VQ.same (.bool pq) (.slice aq nq cq)
   have hz_n := hz.keep hKp
   have hx_n := hx.keep hKp
   have h1_n := h1.keep hKp
   have hq_n := hq.keep hKp
   have hr_n := hr.keep hKp
   have BB_n := below_store2 (R := R24) BB (by omega) (.bool pq) (.slice aq nq cq)
   clear hKp
   obtain ⟨VQ_0,VQ_1,VQ_2,VQ_3⟩ := id VQ
   go_simp
   clear VQ_0 VQ_1 VQ_2 VQ_3
   clear BB hz hx h1 hq hr VA VR VQ VM
   generalize (w11.setCell ⟨R24,0,none⟩ (.bool pq)).setCell ⟨R24,1,none⟩ (.slice aq nq cq) = W32 at *
   have BB := BB_n
   have hz := hz_n
   have hx := hx_n
   have h1 := h1_n
   have hq := hq_n
   have hr := hr_n
   have VA := VA_n
   have VR := VR_n
   have VQ := VQ_n
   have VM := VM_n
   clear BB_n hz_n hx_n h1_n hq_n hr_n VA_n VR_n VQ_n VM_n
   refine hK.out _ _ ?_ (fun hH5 => ?_)
   ·exact ⟨VA.1,VA.2.1,VA.2.2.1⟩
   clear hK K hH4
   (try simp only [Act.put,xL4,xL5,xL6])
   refine xR [11] (h := ?_)
   refine xN (h := fun K hK => ?_)
   have hKp := VM.keepJ (.bool pr) (.slice ar nr cr)
   have VA_n := VA.other2 (R := R31) (by omega) (.bool pr) (.slice ar nr cr)
   have VR_n := VR.other (R := R31) (by omega) (.bool pr) (.slice ar nr cr)
   have VQ_n := VQ.other (R := R31) (by omega) (.bool pr) (.slice ar nr cr)
   have VM_n := VM.same (.bool pr) (.slice ar nr cr)
   have hz_n := hz.keep hKp
   have hx_n := hx.keep hKp
   have h1_n := h1.keep hKp
   have hq_n := hq.keep hKp
   have hr_n := hr.keep hKp
   have BB_n := below_store2 (R := R31) BB (by omega) (.bool pr) (.slice ar nr cr)
   clear hKp
   obtain ⟨VM_0,VM_1,VM_2,VM_3⟩ := id VM
   go_simp
   clear VM_0 VM_1 VM_2 VM_3
   clear BB hz hx h1 hq hr VA VR VQ VM
   generalize (W32.setCell ⟨R31,0,none⟩ (.bool pr)).setCell ⟨R31,1,none⟩ (.slice ar nr cr) = W33 at *
   have BB := BB_n
   have hz := hz_n
   have hx := hx_n
   have h1 := h1_n
   have hq := hq_n
   have hr := hr_n
   have VA := VA_n
   have VR := VR_n
   have VQ := VQ_n
   have VM := VM_n
   clear BB_n hz_n hx_n h1_n hq_n hr_n VA_n VR_n VQ_n VM_n
   refine hK.out _ _ ?_ (fun hH6 => ?_)
   ·exact ⟨VA.1,VA.2.1,VA.2.2.1⟩
   clear hK K hH5
   (try simp only [Act.put,xL4,xL5,xL6])
   refine wpAnyH_done (by kernel_rfl) ?_ _
   clear hH6
   have hKp := VR.keepJ (.bool pq) (.slice aq nq cq)
   have hz_n := hz.keep hKp
   have hx_n := hx.keep hKp
   have h1_n := h1.keep hKp
   have hq_n := hq.keep hKp
   have hr_n := hr.keep hKp
   have BB_n := below_store2 (R := w.heap.size + 1) BB (by omega) (.bool pq) (.slice aq nq cq)
   clear hKp
   obtain ⟨VQ_0,VQ_1,VQ_2,VQ_3⟩ := id VQ
   obtain ⟨q1,q2,q3,q4⟩ := id VR
   go_wp2
   (try simp only [Exit.inBlock,Exit.then])
   refine bodyPost_ret (v := .agg #[.bool pq,.slice aq nq cq]) (by simp [results,go_sem,q1,q2]) rfl ?_
   exact ⟨_,rfl,hq_n,BB_n⟩
  exact AllReadyH.nil
 refine xC (h := fun K hK => ?_) (hs := ?_)
 ·
  go_simp
  have hZ34 : w.heap.size ≤ W1.heap.size := BB.size
  have hN34VA : w.heap.size ≠ W1.heap.size := Nat.ne_of_lt VA.lt
  have hN34VR : w.heap.size + 1 ≠ W1.heap.size := Nat.ne_of_lt VR.lt
  obtain ⟨W34,hW34,hS34,hL34,VM⟩ := V2.lay W1 36 (.bool false) (.slice none 0 0)
  replace hz := hz.below hL34
  replace hx := hx.below hL34
  replace VA := VA.below hL34
  replace VR := VR.below hL34
  replace BB := BB.trans (hL34.mono BB.size)
  clear hL34
  rw [← hW34]
  generalize W1.heap.size = R34 at *
  clear hW34 hS34
  refine hK.out _ _ ?_ (fun hH1 => ?_)
  ·exact ⟨VA.1,VA.2.1,VA.2.2.1⟩
  clear hK K hHeld
  (try simp only [Act.put,xL4,xL5,xL6])
  refine xR [3,8] (h := ?_)
  refine xC (h := fun K hK => ?_) (hs := ?_)
  ·
   go_simp
   refine (den_at p ao n c bo m d x _ hx).mono ?_
   rintro e w12 ⟨e1,rfl,h1,b12⟩
   go_wp2_with fail
   replace hz := hz.below b12
   replace hx := hx.below b12
   replace VA := VA.below b12
   replace VR := VR.below b12
   replace VM := VM.below b12
   replace BB := BB.trans (b12.mono BB.size)
   clear b12
   refine hK.out _ _ ?_ (fun hH2 => ?_)
   ·exact ⟨VA.1,VA.2.1,VA.2.2.1⟩
   clear hK K hH1
   (try simp only [Act.put,xL4,xL5,xL6])
   refine xR [4,8] (h := ?_)
   refine xC (h := fun K hK => ?_) (hs := ?_)
   ·
    go_simp
    refine (rover_any _ _ z (x : Int) _ hz h1 (by omega) l3 l4).mono ?_
    rintro e w13 ⟨e2,e3,rfl,hq,hr,b13⟩
    obtain ⟨pq,aq,nq,cq,rfl⟩ := hq.open
    obtain ⟨pr,ar,nr,cr,rfl⟩ := hr.open
    go_wp2_with fail
    replace hz := hz.below b13
    replace hx := hx.below b13
    replace h1 := h1.below b13
    replace VA := VA.below b13
    replace VR := VR.below b13
    replace VM := VM.below b13
    replace BB := BB.trans (b13.mono BB.size)
    clear b13
    refine hK.out _ _ ?_ (fun hH3 => ?_)
    ·exact ⟨VA.1,VA.2.1,VA.2.2.1⟩
    clear hK K hH2
    (try simp only [Act.put,xL4,xL5,xL6])
    refine xT 5 (v := ?_) (hy := Or.inl ⟨by rfl,?_⟩) (h := ?_)
    rotate_left
    ·(intro w hSw; (try dsimp only at hSw); go_simp; (try with_reducible rfl))
    (try simp only [Act.put,xL4,xL5,xL6])
    refine xT 6 (v := ?_) (hy := Or.inl ⟨by rfl,?_⟩) (h := ?_)
    rotate_left
    ·(intro w hSw; (try dsimp only at hSw); go_simp; (try with_reducible rfl))
    (try simp only [Act.put,xL4,xL5,xL6])
    refine xT 7 (v := ?_) (hy := Or.inl ⟨by rfl,?_⟩) (h := ?_)
    rotate_left
    ·(intro w hSw; (try dsimp only at hSw); go_simp; (try with_reducible rfl))
    (try simp only [Act.put,xL4,xL5,xL6])
    refine xR [8] (h := ?_)
    refine xN (h := fun K hK => ?_)
    go_simp
    have hZ35 : w.heap.size ≤ w13.heap.size := BB.size
    have hN35VA : w.heap.size ≠ w13.heap.size := Nat.ne_of_lt VA.lt
    have hN35VR : w.heap.size + 1 ≠ w13.heap.size := Nat.ne_of_lt VR.lt
    have hN35VM : R34 ≠ w13.heap.size := Nat.ne_of_lt VM.lt
    obtain ⟨W35,hW35,hS35,hL35,VQ⟩ := V2.lay w13 36 (.bool false) (.slice none 0 0)
    replace hz := hz.below hL35
    replace hx := hx.below hL35
    replace h1 := h1.below hL35
    replace hq := hq.below hL35
    replace hr := hr.below hL35
    replace VA := VA.below hL35
    replace VR := VR.below hL35
    replace VM := VM.below hL35
    replace BB := BB.trans (hL35.mono BB.size)
    clear hL35
    rw [← hW35]
    generalize w13.heap.size = R35 at *
    clear hW35 hS35
    refine hK.out _ _ ?_ (fun hH4 => ?_)
    ·exact ⟨VA.1,VA.2.1,VA.2.2.1⟩
    clear hK K hH3
    (try simp only [Act.put,xL4,xL5,xL6])
    refine xR [10] (h := ?_)
    refine xN (h := fun K hK => ?_)
    have hKp := VQ.keepJ (.bool pq) (.slice aq nq cq)
    have VA_n := VA.other2 (R := R35) (by omega) (.bool pq) (.slice aq nq cq)
    have VR_n := VR.other (R := R35) (by omega) (.bool pq) (.slice aq nq cq)
    have VM_n := VM.other (R := R35) (by omega) (.bool pq) (.slice aq nq cq)
    have VQ_n := VQ.same (.bool pq) (.slice aq nq cq)
    have hz_n := hz.keep hKp
    have hx_n := hx.keep hKp
    have h1_n := h1.keep hKp
    have hq_n := hq.keep hKp
    have hr_n := hr.keep hKp
    have BB_n := below_store2 (R := R35) BB (by omega) (.bool pq) (.slice aq nq cq)
    clear hKp
    obtain ⟨VQ_0,VQ_1,VQ_2,VQ_3⟩ := id VQ
    go_simp
    clear VQ_0 VQ_1 VQ_2 VQ_3
    clear BB hz hx h1 hq hr VA VR VM VQ
    generalize (W35.setCell ⟨R35,0,none⟩ (.bool pq)).setCell ⟨R35,1,none⟩ (.slice aq nq cq) = W36 at *
    have BB := BB_n
    have hz := hz_n
    have hx := hx_n
    have h1 := h1_n
    have hq := hq_n
    have hr := hr_n
    have VA := VA_n
    have VR := VR_n
    have VM := VM_n
    have VQ := VQ_n
    clear BB_n hz_n hx_n h1_n hq_n hr_n VA_n VR_n VM_n VQ_n
    refine hK.out _ _ ?_ (fun hH5 => ?_)
    ·exact ⟨VA.1,VA.2.1,VA.2.2.1⟩
    clear hK K hH4
    (try simp only [Act.put,xL4,xL5,xL6])
    refine xR [11] (h := ?_)
    refine xN (h := fun K hK => ?_)
    have hKp := VM.keepJ (.bool pr) (.slice ar nr cr)
    have VA_n := VA.other2 (R := R34) (by omega) (.bool pr) (.slice ar nr cr)
    have VR_n := VR.other (R := R34) (by omega) (.bool pr) (.slice ar nr cr)
    have VQ_n := VQ.other (R := R34) (by omega) (.bool pr) (.slice ar nr cr)
    have VM_n := VM.same (.bool pr) (.slice ar nr cr)
    have hz_n := hz.keep hKp
    have hx_n := hx.keep hKp
    have h1_n := h1.keep hKp
    have hq_n := hq.keep hKp
    have hr_n := hr.keep hKp
    have BB_n := below_store2 (R := R34) BB (by omega) (.bool pr) (.slice ar nr cr)
    clear hKp
    obtain ⟨VM_0,VM_1,VM_2,VM_3⟩ := id VM
    go_simp
    clear VM_0 VM_1 VM_2 VM_3
    clear BB hz hx h1 hq hr VA VR VM VQ
    generalize (W36.setCell ⟨R34,0,none⟩ (.bool pr)).setCell ⟨R34,1,none⟩ (.slice ar nr cr) = W37 at *
    have BB := BB_n
    have hz := hz_n
    have hx := hx_n
    have h1 := h1_n
    have hq := hq_n
    have hr := hr_n
    have VA := VA_n
    have VR := VR_n
    have VM := VM_n
    have VQ := VQ_n
    clear BB_n hz_n hx_n h1_n hq_n hr_n VA_n VR_n VM_n VQ_n
    refine hK.out _ _ ?_ (fun hH6 => ?_)
    ·exact ⟨VA.1,VA.2.1,VA.2.2.1⟩
    clear hK K hH5
    (try simp only [Act.put,xL4,xL5,xL6])
    refine wpAnyH_done (by kernel_rfl) ?_ _
    clear hH6
    have hKp := VR.keepJ (.bool pq) (.slice aq nq cq)
    have hz_n := hz.keep hKp
    have hx_n := hx.keep hKp
    have h1_n := h1.keep hKp
    have hq_n := hq.keep hKp
    have hr_n := hr.keep hKp
    have BB_n := below_store2 (R := w.heap.size + 1) BB (by omega) (.bool pq) (.slice aq nq cq)
    clear hKp
    obtain ⟨VQ_0,VQ_1,VQ_2,VQ_3⟩ := id VQ
    obtain ⟨q1,q2,q3,q4⟩ := id VR
    go_wp2
    (try simp only [Exit.inBlock,Exit.then])
    refine bodyPost_ret (v := .agg #[.bool pq,.slice aq nq cq]) (by simp [results,go_sem,q1,q2]) rfl ?_
    exact ⟨_,rfl,hq_n,BB_n⟩
   refine xC (h := fun K hK => ?_) (hs := ?_)
   ·
    go_simp
    have hZ38 : w.heap.size ≤ w12.heap.size := BB.size
    have hN38VA : w.heap.size ≠ w12.heap.size := Nat.ne_of_lt VA.lt
    have hN38VR : w.heap.size + 1 ≠ w12.heap.size := Nat.ne_of_lt VR.lt
    have hN38VM : R34 ≠ w12.heap.size := Nat.ne_of_lt VM.lt
    obtain ⟨W38,hW38,hS38,hL38,VQ⟩ := V2.lay w12 36 (.bool false) (.slice none 0 0)
    replace hz := hz.below hL38
    replace hx := hx.below hL38
    replace h1 := h1.below hL38
    replace VA := VA.below hL38
    replace VR := VR.below hL38
    replace VM := VM.below hL38
    replace BB := BB.trans (hL38.mono BB.size)
    clear hL38
    rw [← hW38]
    generalize w12.heap.size = R38 at *
    clear hW38 hS38
    refine hK.out _ _ ?_ (fun hH3 => ?_)
    ·exact ⟨VA.1,VA.2.1,VA.2.2.1⟩
    clear hK K hH2
    (try simp only [Act.put,xL4,xL5,xL6])
    refine xR [4] (h := ?_)
    refine xN (h := fun K hK => ?_)
    go_simp
    refine (rover_any _ _ z (x : Int) _ hz h1 (by omega) l3 l4).mono ?_
    rintro e w14 ⟨e2,e3,rfl,hq,hr,b14⟩
    obtain ⟨pq,aq,nq,cq,rfl⟩ := hq.open
    obtain ⟨pr,ar,nr,cr,rfl⟩ := hr.open
    go_wp2_with fail
    replace hz := hz.below b14
    replace hx := hx.below b14
    replace h1 := h1.below b14
    replace VA := VA.below b14
    replace VR := VR.below b14
    replace VM := VM.below b14
    replace VQ := VQ.below b14
    replace BB := BB.trans (b14.mono BB.size)
    clear b14
    refine hK.out _ _ ?_ (fun hH4 => ?_)
    ·exact ⟨VA.1,VA.2.1,VA.2.2.1⟩
    clear hK K hH3
    (try simp only [Act.put,xL4,xL5,xL6])
    refine xT 5 (v := ?_) (hy := Or.inl ⟨by rfl,?_⟩) (h := ?_)
    rotate_left
    ·(intro w hSw; (try dsimp only at hSw); go_simp; (try with_reducible rfl))
    (try simp only [Act.put,xL4,xL5,xL6])
    refine xT 6 (v := ?_) (hy := Or.inl ⟨by rfl,?_⟩) (h := ?_)
    rotate_left
    ·(intro w hSw; (try dsimp only at hSw); go_simp; (try with_reducible rfl))
    (try simp only [Act.put,xL4,xL5,xL6])
    refine xT 7 (v := ?_) (hy := Or.inl ⟨by rfl,?_⟩) (h := ?_)
    rotate_left
    ·(intro w hSw; (try dsimp only at hSw); go_simp; (try with_reducible rfl))
    (try simp only [Act.put,xL4,xL5,xL6])
    refine xR [10] (h := ?_)
    refine xN (h := fun K hK => ?_)
    have hKp := VQ.keepJ (.bool pq) (.slice aq nq cq)
    have VA_n := VA.other2 (R := R38) (by omega) (.bool pq) (.slice aq nq cq)
    have VR_n := VR.other (R := R38) (by omega) (.bool pq) (.slice aq nq cq)
    have VM_n := VM.other (R := R38) (by omega) (.bool pq) (.slice aq nq cq)
    have VQ_n := VQ.same (.bool pq) (.slice aq nq cq)
    have hz_n := hz.keep hKp
    have hx_n := hx.keep hKp
    have h1_n := h1.keep hKp
    have hq_n := hq.keep hKp
    have hr_n := hr.keep hKp
    have BB_n := below_store2 (R := R38) BB (by omega) (.bool pq) (.slice aq nq cq)
    clear hKp
    obtain ⟨VQ_0,VQ_1,VQ_2,VQ_3⟩ := id VQ
    go_simp
    clear VQ_0 VQ_1 VQ_2 VQ_3
    clear BB hz hx h1 hq hr VA VR VM VQ
    generalize (w14.setCell ⟨R38,0,none⟩ (.bool pq)).setCell ⟨R38,1,none⟩ (.slice aq nq cq) = W39 at *
    have BB := BB_n
    have hz := hz_n
    have hx := hx_n
    have h1 := h1_n
    have hq := hq_n
    have hr := hr_n
    have VA := VA_n
    have VR := VR_n
    have VM := VM_n
    have VQ := VQ_n
    clear BB_n hz_n hx_n h1_n hq_n hr_n VA_n VR_n VM_n VQ_n
    refine hK.out _ _ ?_ (fun hH5 => ?_)
    ·exact ⟨VA.1,VA.2.1,VA.2.2.1⟩
    clear hK K hH4
    (try simp only [Act.put,xL4,xL5,xL6])
    refine xR [11] (h := ?_)
    refine xN (h := fun K hK => ?_)
    have hKp := VM.keepJ (.bool pr) (.slice ar nr cr)
    have VA_n := VA.other2 (R := R34) (by omega) (.bool pr) (.slice ar nr cr)
    have VR_n := VR.other (R := R34) (by omega) (.bool pr) (.slice ar nr cr)
    have VQ_n := VQ.other (R := R34) (by omega) (.bool pr) (.slice ar nr cr)
    have VM_n := VM.same (.bool pr) (.slice ar nr cr)
    have hz_n := hz.keep hKp
    have hx_n := hx.keep hKp
    have h1_n := h1.keep hKp
    have hq_n := hq.keep hKp
    have hr_n := hr.keep hKp
    have BB_n := below_store2 (R := R34) BB (by omega) (.bool pr) (.slice ar nr cr)
    clear hKp
    obtain ⟨VM_0,VM_1,VM_2,VM_3⟩ := id VM
    go_simp
    clear VM_0 VM_1 VM_2 VM_3
    clear BB hz hx h1 hq hr VA VR VM VQ
    generalize (W39.setCell ⟨R34,0,none⟩ (.bool pr)).setCell ⟨R34,1,none⟩ (.slice ar nr cr) = W40 at *
    have BB := BB_n
    have hz := hz_n
    have hx := hx_n
    have h1 := h1_n
    have hq := hq_n
    have hr := hr_n
    have VA := VA_n
    have VR := VR_n
    have VM := VM_n
    have VQ := VQ_n
    clear BB_n hz_n hx_n h1_n hq_n hr_n VA_n VR_n VM_n VQ_n
    refine hK.out _ _ ?_ (fun hH6 => ?_)
    ·exact ⟨VA.1,VA.2.1,VA.2.2.1⟩
    clear hK K hH5
    (try simp only [Act.put,xL4,xL5,xL6])
    refine wpAnyH_done (by kernel_rfl) ?_ _
    clear hH6
    have hKp := VR.keepJ (.bool pq) (.slice aq nq cq)
    have hz_n := hz.keep hKp
    have hx_n := hx.keep hKp
    have h1_n := h1.keep hKp
    have hq_n := hq.keep hKp
    have hr_n := hr.keep hKp
    have BB_n := below_store2 (R := w.heap.size + 1) BB (by omega) (.bool pq) (.slice aq nq cq)
    clear hKp
    obtain ⟨VQ_0,VQ_1,VQ_2,VQ_3⟩ := id VQ
    obtain ⟨q1,q2,q3,q4⟩ := id VR
    go_wp2
    (try simp only [Exit.inBlock,Exit.then])
    refine bodyPost_ret (v := .agg #[.bool pq,.slice aq nq cq]) (by simp [results,go_sem,q1,q2]) rfl ?_
    exact ⟨_,rfl,hq_n,BB_n⟩
   exact AllReadyH.nil
  refine xC (h := fun K hK => ?_) (hs := ?_)
  ·
   go_simp
   have hZ41 : w.heap.size ≤ W34.heap.size := BB.size
   have hN41VA : w.heap.size ≠ W34.heap.size := Nat.ne_of_lt VA.lt
   have hN41VR : w.heap.size + 1 ≠ W34.heap.size := Nat.ne_of_lt VR.lt
   have hN41VM : R34 ≠ W34.heap.size := Nat.ne_of_lt VM.lt
   obtain ⟨W41,hW41,hS41,hL41,VQ⟩ := V2.lay W34 36 (.bool false) (.slice none 0 0)
   replace hz := hz.below hL41
   replace hx := hx.below hL41
   replace VA := VA.below hL41
   replace VR := VR.below hL41
   replace VM := VM.below hL41
   replace BB := BB.trans (hL41.mono BB.size)
   clear hL41
   rw [← hW41]
   generalize W34.heap.size = R41 at *
   clear hW41 hS41
   refine hK.out _ _ ?_ (fun hH2 => ?_)
   ·exact ⟨VA.1,VA.2.1,VA.2.2.1⟩
   clear hK K hH1
   (try simp only [Act.put,xL4,xL5,xL6])
   refine xR [3] (h := ?_)
   refine xN (h := fun K hK => ?_)
   go_simp
   refine (den_at p ao n c bo m d x _ hx).mono ?_
   rintro e w15 ⟨e1,rfl,h1,b15⟩
   go_wp2_with fail
   replace hz := hz.below b15
   replace hx := hx.below b15
   replace VA := VA.below b15
   replace VR := VR.below b15
   replace VM := VM.below b15
   replace VQ := VQ.below b15
   replace BB := BB.trans (b15.mono BB.size)
   clear b15
   refine hK.out _ _ ?_ (fun hH3 => ?_)
   ·exact ⟨VA.1,VA.2.1,VA.2.2.1⟩
   clear hK K hH2
   (try simp only [Act.put,xL4,xL5,xL6])
   refine xR [4] (h := ?_)
   refine xN (h := fun K hK => ?_)
   go_simp
   refine (rover_any _ _ z (x : Int) _ hz h1 (by omega) l3 l4).mono ?_
   rintro e w16 ⟨e2,e3,rfl,hq,hr,b16⟩
   obtain ⟨pq,aq,nq,cq,rfl⟩ := hq.open
   obtain ⟨pr,ar,nr,cr,rfl⟩ := hr.open
   go_wp2_with fail
   replace hz := hz.below b16
   replace hx := hx.below b16
   replace h1 := h1.below b16
   replace VA := VA.below b16
   replace VR := VR.below b16
   replace VM := VM.below b16
   replace VQ := VQ.below b16
   replace BB := BB.trans (b16.mono BB.size)
   clear b16
   refine hK.out _ _ ?_ (fun hH4 => ?_)
   ·exact ⟨VA.1,VA.2.1,VA.2.2.1⟩
   clear hK K hH3
   (try simp only [Act.put,xL4,xL5,xL6])
   refine xT 5 (v := ?_) (hy := Or.inl ⟨by rfl,?_⟩) (h := ?_)
   rotate_left
   ·(intro w hSw; (try dsimp only at hSw); go_simp; (try with_reducible rfl))
   (try simp only [Act.put,xL4,xL5,xL6])
   refine xT 6 (v := ?_) (hy := Or.inl ⟨by rfl,?_⟩) (h := ?_)
   rotate_left
   ·(intro w hSw; (try dsimp only at hSw); go_simp; (try with_reducible rfl))
   (try simp only [Act.put,xL4,xL5,xL6])
   refine xT 7 (v := ?_) (hy := Or.inl ⟨by rfl,?_⟩) (h := ?_)
   rotate_left
   ·(intro w hSw; (try dsimp only at hSw); go_simp; (try with_reducible rfl))
   (try simp only [Act.put,xL4,xL5,xL6])
   refine xR [10] (h := ?_)
   refine xN (h := fun K hK => ?_)
   have hKp := VQ.keepJ (.bool pq) (.slice aq nq cq)
   have VA_n := VA.other2 (R := R41) (by omega) (.bool pq) (.slice aq nq cq)
   have VR_n := VR.other (R := R41) (by omega) (.bool pq) (.slice aq nq cq)
   have VM_n := VM.other (R := R41) (by omega) (.bool pq) (.slice aq nq cq)
   have VQ_n := VQ.same (.bool pq) (.slice aq nq cq)
   have hz_n := hz.keep hKp
   have hx_n := hx.keep hKp
   have h1_n := h1.keep hKp
   have hq_n := hq.keep hKp
   have hr_n := hr.keep hKp
   have BB_n := below_store2 (R := R41) BB (by omega) (.bool pq) (.slice aq nq cq)
   clear hKp
   obtain ⟨VQ_0,VQ_1,VQ_2,VQ_3⟩ := id VQ
   go_simp
   clear VQ_0 VQ_1 VQ_2 VQ_3
   clear BB hz hx h1 hq hr VA VR VM VQ
   generalize (w16.setCell ⟨R41,0,none⟩ (.bool pq)).setCell ⟨R41,1,none⟩ (.slice aq nq cq) = W42 at *
   have BB := BB_n
   have hz := hz_n
   have hx := hx_n
   have h1 := h1_n
   have hq := hq_n
   have hr := hr_n
   have VA := VA_n
   have VR := VR_n
   have VM := VM_n
   have VQ := VQ_n
   clear BB_n hz_n hx_n h1_n hq_n hr_n VA_n VR_n VM_n VQ_n
   refine hK.out _ _ ?_ (fun hH5 => ?_)
   ·exact ⟨VA.1,VA.2.1,VA.2.2.1⟩
   clear hK K hH4
   (try simp only [Act.put,xL4,xL5,xL6])
   refine xR [11] (h := ?_)
   refine xN (h := fun K hK => ?_)
   have hKp := VM.keepJ (.bool pr) (.slice ar nr cr)
   have VA_n := VA.other2 (R := R34) (by omega) (.bool pr) (.slice ar nr cr)
   have VR_n := VR.other (R := R34) (by omega) (.bool pr) (.slice ar nr cr)
   have VQ_n := VQ.other (R := R34) (by omega) (.bool pr) (.slice ar nr cr)
   have VM_n := VM.same (.bool pr) (.slice ar nr cr)
   have hz_n := hz.keep hKp
   have hx_n := hx.keep hKp
   have h1_n := h1.keep hKp
   have hq_n := hq.keep hKp
   have hr_n := hr.keep hKp
   have BB_n := below_store2 (R := R34) BB (by omega) (.bool pr) (.slice ar nr cr)
   clear hKp
   obtain ⟨VM_0,VM_1,VM_2,VM_3⟩ := id VM
   go_simp
   clear VM_0 VM_1 VM_2 VM_3
   clear BB hz hx h1 hq hr VA VR VM VQ
   generalize (W42.setCell ⟨R34,0,none⟩ (.bool pr)).setCell ⟨R34,1,none⟩ (.slice ar nr cr) = W43 at *
   have BB := BB_n
   have hz := hz_n
   have hx := hx_n
   have h1 := h1_n
   have hq := hq_n
   have hr := hr_n
   have VA := VA_n
   have VR := VR_n
   have VM := VM_n
   have VQ := VQ_n
   clear BB_n hz_n hx_n h1_n hq_n hr_n VA_n VR_n VM_n VQ_n
   refine hK.out _ _ ?_ (fun hH6 => ?_)
   ·exact ⟨VA.1,VA.2.1,VA.2.2.1⟩
   clear hK K hH5
   (try simp only [Act.put,xL4,xL5,xL6])
   refine wpAnyH_done (by kernel_rfl) ?_ _
   clear hH6
   have hKp := VR.keepJ (.bool pq) (.slice aq nq cq)
   have hz_n := hz.keep hKp
   have hx_n := hx.keep hKp
   have h1_n := h1.keep hKp
   have hq_n := hq.keep hKp
   have hr_n := hr.keep hKp
   have BB_n := below_store2 (R := w.heap.size + 1) BB (by omega) (.bool pq) (.slice aq nq cq)
   clear hKp
   obtain ⟨VQ_0,VQ_1,VQ_2,VQ_3⟩ := id VQ
   obtain ⟨q1,q2,q3,q4⟩ := id VR
   go_wp2
   (try simp only [Exit.inBlock,Exit.then])
   refine bodyPost_ret (v := .agg #[.bool pq,.slice aq nq cq]) (by simp [results,go_sem,q1,q2]) rfl ?_
   exact ⟨_,rfl,hq_n,BB_n⟩
  exact AllReadyH.nil
 exact AllReadyH.nil
end Go.Proofs.YtmbmboiefhmfmaaGreatDoor
