/-
  Texts of mine, joined: what lies beneath the statement.
-/
import Derived.Test.YtmbmboiefhmfmaaGreatDoorJb1573f1f59
import Derived.Test.YtmbmboiefhmfmaaGreatDoorJ41b92b4f41
import Derived.Test.YtmbmboiefhmfmaaGreatDoorJ19f8fa5e95
import Derived.Test.YtmbmboiefhmfmaaGreatDoorJ530e764104
namespace Go.Proofs.YtmbmboiefhmfmaaGreatDoor
open Go.RowKit
set_option linter.unusedVariables false
set_option linter.unusedSimpArgs false
set_option maxRecDepth 20000 in
set_option maxHeartbeats 4000000 in
theorem decimal_at (v : Value) (q : Rat) (L k : Nat) (w : World) (hv : RatAt w v q L) (hL : 1 ≤ L) (hM : L ≤ 10) (hk : k ≤ 20) :
  Calls Tryz.prog 9 #[v,.int .i64 (k : Int)] w fun e w' => e = .returned (.tuple #[.string (decTxt (roundQ (q * ((10 ^ k : Nat) : Rat))) k),.int .i64 0]) ∧ Below w.heap.size w w' := by
 obtain ⟨p,ao,n,c,bo,m,d,rfl⟩ := hv.open
 have sq := hv.qsz hL
 obtain ⟨z,x,hz,hx,hq⟩ := hv.parts
 have HS : Hid (mkRat (z * ((10 ^ k : Nat) : Int)) x = q * ((10 ^ k : Nat) : Rat)) := by
  show _ = _
  rw [mkRat_scale,← hq]
 clear hq hv
 have n3 : nl W32 (10 ^ k) ≤ 21 := nl_ten k 21 (by omega)
 have s3 : qsz (q * ((10 ^ k : Nat) : Rat)) ≤ L + 21 := qsz_mul _ _ sq (by rw [← Rat.intCast_natCast]; exact qsz_int _ (by rw [Int.natAbs_natCast]; exact n3) (by omega))
 have l4 := nl_round _ s3 (by omega)
 have c0 : ¬ (k : Int) < 0 := by omega
 have c1 : ¬ (10000 : Int) < (k : Int) := by omega
 obtain ⟨N,hN⟩ : ∃ N,N = roundQ (q * ((10 ^ k : Nat) : Rat)) := ⟨_,rfl⟩
 have HR : Hid (roundQ (q * ((10 ^ k : Nat) : Rat)) = N) := hN.symm
 have HX : Hid (decTxt (roundQ (q * ((10 ^ k : Nat) : Rat))) k = decTxt N k) := by show _ = _; rw [← hN]
 rw [← hN] at l4
 clear hN
 have BB : Below w.heap.size w w := Below.refl _ _
 obtain ⟨Wb0,hW0,hS0,hL0,VA⟩ := V3.lay w 27 (.bool p) (.slice ao n c) (.slice bo m d)
 replace hz := hz.below hL0
 replace hx := hx.below hL0
 replace BB := BB.trans (hL0.mono BB.size)
 clear hL0
 go_enter Tryz.func9,Tryz.ntmps9
 go_wp2
 rw [← hW0]
 clear hW0 hS0
 go_cut [6] from 16 (fun s6 wc => ∃ (RN : Nat) (pr : Bool) (ar : Option Addr) (nr cr : Nat),s6 = .pointer (some ⟨RN,0,none⟩) ∧ V2 wc RN (.bool pr) (.slice ar nr cr) ∧ RepI wc (.agg #[.bool pr,.slice ar nr cr]) N ∧ Below Wb0.heap.size Wb0 wc)
 case first =>
  clear BB
  have BB : Below Wb0.heap.size Wb0 Wb0 := Below.refl _ _
  have hDr : Below Wb0.heap.size Wb0 Wb0.drew := (Below.refl _ _).drew
  replace hz := hz.below hDr
  replace hx := hx.below hDr
  replace VA := VA.below hDr
  replace BB := BB.trans (hDr.mono BB.size)
  clear hDr
  refine wp_region_held_drew (S := (fun w' => w'.cell? ⟨w.heap.size,0,none⟩ = some (.bool p) ∧ w'.cell? ⟨w.heap.size,1,none⟩ = some (.slice ao n c) ∧ w'.cell? ⟨w.heap.size,2,none⟩ = some (.slice bo m d))) (by kernel_rfl) ?_ (fun hHeld => ?_)
  ·exact ⟨VA.1,VA.2.1,VA.2.2.1⟩
  generalize Wb0.drew = W1 at *
  refine xT 0 (v := ?_) (hy := Or.inl ⟨by rfl,?_⟩) (h := ?_)
  rotate_left
  ·(intro w hSw; (try dsimp only at hSw); go_simp; (try with_reducible rfl))
  (try simp only [Act.put,xL4,xL5,xL6])
  refine xT 1 (v := ?_) (hy := Or.inl ⟨by rfl,?_⟩) (h := ?_)
  rotate_left
  ·(intro w hSw; (try dsimp only at hSw); go_simp; (try with_reducible rfl))
  (try simp only [Act.put,xL4,xL5,xL6])
  refine xT 2 (v := ?_) (hy := Or.inl ⟨by rfl,?_⟩) (h := ?_)
  rotate_left
  ·(intro w hSw; (try dsimp only at hSw); go_simp; (try with_reducible rfl))
  (try simp only [Act.put,xL4,xL5,xL6])
  refine xT 5 (v := ?_) (hy := Or.inl ⟨by rfl,?_⟩) (h := ?_)
  rotate_left
  ·(intro w hSw; (try dsimp only at hSw); go_simp; (try with_reducible rfl))
  (try simp only [Act.put,xL4,xL5,xL6])
  refine xT 6 (v := ?_) (hy := Or.inl ⟨by rfl,?_⟩) (h := ?_)
  rotate_left
  ·(intro w hSw; (try dsimp only at hSw); go_simp; (try with_reducible rfl))
  (try simp only [Act.put,xL4,xL5,xL6])
  refine xR [3,9] (h := ?_)
  refine xC (h := fun K hK => ?_) (hs := ?_)
  ·
   go_simp
   refine (powTen_at k _ (by omega)).mono ?_
   rintro e w1 ⟨tp,rfl,hp,b1⟩
   go_wp2_with fail
   replace hz := hz.below b1
   replace hx := hx.below b1
   replace VA := VA.below b1
   replace BB := BB.trans (b1.mono BB.size)
   clear b1
   refine hK.out _ _ ?_ (fun hH1 => ?_)
   ·exact ⟨VA.1,VA.2.1,VA.2.2.1⟩
   clear hK K hHeld
   (try simp only [Act.put,xL4,xL5,xL6])
   refine xR [4,9] (h := ?_)
   refine xC (h := fun K hK => ?_) (hs := ?_)
   ·
    go_simp
    refine (times_at _ _ _ _ L 21 _ hz (hp.at _ n3) (by omega)).mono ?_
    rintro e w2 ⟨tt,rfl,htt,b2⟩
    obtain ⟨pt,at_,nt,ct,rfl⟩ := htt.open
    go_wp2_with fail
    replace hz := hz.below b2
    replace hx := hx.below b2
    replace hp := hp.below b2
    replace VA := VA.below b2
    replace BB := BB.trans (b2.mono BB.size)
    clear b2
    refine hK.out _ _ ?_ (fun hH2 => ?_)
    ·exact ⟨VA.1,VA.2.1,VA.2.2.1⟩
    clear hK K hH1
    (try simp only [Act.put,xL4,xL5,xL6])
    refine xT 7 (v := ?_) (hy := Or.inl ⟨by rfl,?_⟩) (h := ?_)
    rotate_left
    ·(intro w hSw; (try dsimp only at hSw); go_simp; (try with_reducible rfl))
    (try simp only [Act.put,xL4,xL5,xL6])
    refine xR [8,9] (h := ?_)
    refine xC (h := fun K hK => ?_) (hs := ?_)
    ·
     go_simp
     refine (qround_at _ (q * ((10 ^ k : Nat) : Rat)) (L + 21) _ (by rw [← HS.out]; exact RatAt.mk (htt.at _ (nlz_mul hz.nl (by rw [Int.natAbs_natCast]; exact n3) (Nat.le_refl _))) (hx.le (by omega))) (by omega) (by omega)).mono ?_
     rintro e w3 ⟨rr,rfl,hr,b3⟩
     rw [HR.out] at hr
     obtain ⟨pr,ar,nr,cr,rfl⟩ := hr.open
     go_wp2_with fail
     replace hz := hz.below b3
     replace hx := hx.below b3
     replace hp := hp.below b3
     replace htt := htt.below b3
     replace VA := VA.below b3
     replace BB := BB.trans (b3.mono BB.size)
     clear b3
     refine hK.out _ _ ?_ (fun hH3 => ?_)
     ·exact ⟨VA.1,VA.2.1,VA.2.2.1⟩
     clear hK K hH2
     (try simp only [Act.put,xL4,xL5,xL6])
     refine xR [9] (h := ?_)
     refine xN (h := fun K hK => ?_)
     go_simp
     have hZ2 : Wb0.heap.size ≤ w3.heap.size := BB.size
     have hN2VA : w.heap.size ≠ w3.heap.size := Nat.ne_of_lt VA.lt
     obtain ⟨W2,hW2,hS2,hL2,VN⟩ := V2.lay w3 25 (.bool false) (.slice none 0 0)
     replace hz := hz.below hL2
     replace hx := hx.below hL2
     replace hp := hp.below hL2
     replace htt := htt.below hL2
     replace hr := hr.below hL2
     replace VA := VA.below hL2
     replace BB := BB.trans (hL2.mono BB.size)
     clear hL2
     rw [← hW2]
     generalize w3.heap.size = R2 at *
     clear hW2 hS2
     refine hK.out _ _ ?_ (fun hH4 => ?_)
     ·exact ⟨VA.1,VA.2.1,VA.2.2.1⟩
     clear hK K hH3
     (try simp only [Act.put,xL4,xL5,xL6])
     refine xR [10] (h := ?_)
     refine xN (h := fun K hK => ?_)
     have hKp := VN.keepJ (.bool pr) (.slice ar nr cr)
     have VA_n := VA.other2 (R := R2) (by omega) (.bool pr) (.slice ar nr cr)
     have VN_n := VN.same (.bool pr) (.slice ar nr cr)
     have hz_n := hz.keep hKp
     have hx_n := hx.keep hKp
     have hp_n := hp.keep hKp
     have htt_n := htt.keep hKp
     have hr_n := hr.keep hKp
     have BB_n := below_store2 (R := R2) BB (by omega) (.bool pr) (.slice ar nr cr)
     clear hKp
     obtain ⟨VN_0,VN_1,VN_2,VN_3⟩ := id VN
     go_simp
     clear VN_0 VN_1 VN_2 VN_3
     clear BB hz hx hp htt hr VA VN
     generalize (W2.setCell ⟨R2,0,none⟩ (.bool pr)).setCell ⟨R2,1,none⟩ (.slice ar nr cr) = W3 at *
     have BB := BB_n
     have hz := hz_n
     have hx := hx_n
     have hp := hp_n
     have htt := htt_n
     have hr := hr_n
     have VA := VA_n
     have VN := VN_n
     clear BB_n hz_n hx_n hp_n htt_n hr_n VA_n VN_n
     refine hK.out _ _ ?_ (fun hH5 => ?_)
     ·exact ⟨VA.1,VA.2.1,VA.2.2.1⟩
     clear hK K hH4
     (try simp only [Act.put,xL4,xL5,xL6])
     refine wpAnyH_done (by kernel_rfl) ?_ _
     clear hH5
     go_wp2_with fail
     go_meet
     exact ⟨R2,pr,ar,nr,cr,rfl,VN,hr,BB⟩
    refine xC (h := fun K hK => ?_) (hs := ?_)
    ·
     go_simp
     have hZ4 : Wb0.heap.size ≤ w2.heap.size := BB.size
     have hN4VA : w.heap.size ≠ w2.heap.size := Nat.ne_of_lt VA.lt
     obtain ⟨W4,hW4,hS4,hL4,VN⟩ := V2.lay w2 25 (.bool false) (.slice none 0 0)
     replace hz := hz.below hL4
     replace hx := hx.below hL4
     replace hp := hp.below hL4
     replace htt := htt.below hL4
     replace VA := VA.below hL4
     replace BB := BB.trans (hL4.mono BB.size)
     clear hL4
     rw [← hW4]
     generalize w2.heap.size = R4 at *
     clear hW4 hS4
     refine hK.out _ _ ?_ (fun hH3 => ?_)
     ·exact ⟨VA.1,VA.2.1,VA.2.2.1⟩
     clear hK K hH2
     (try simp only [Act.put,xL4,xL5,xL6])
     refine xR [8] (h := ?_)
     refine xN (h := fun K hK => ?_)
     go_simp
     refine (qround_at _ (q * ((10 ^ k : Nat) : Rat)) (L + 21) _ (by rw [← HS.out]; exact RatAt.mk (htt.at _ (nlz_mul hz.nl (by rw [Int.natAbs_natCast]; exact n3) (Nat.le_refl _))) (hx.le (by omega))) (by omega) (by omega)).mono ?_
     rintro e w4 ⟨rr,rfl,hr,b4⟩
     rw [HR.out] at hr
     obtain ⟨pr,ar,nr,cr,rfl⟩ := hr.open
     go_wp2_with fail
     replace hz := hz.below b4
     replace hx := hx.below b4
     replace hp := hp.below b4
     replace htt := htt.below b4
     replace VA := VA.below b4
     replace VN := VN.below b4
     replace BB := BB.trans (b4.mono BB.size)
     clear b4
     refine hK.out _ _ ?_ (fun hH4 => ?_)
     ·exact ⟨VA.1,VA.2.1,VA.2.2.1⟩
     clear hK K hH3
     (try simp only [Act.put,xL4,xL5,xL6])
     refine xR [10] (h := ?_)
     refine xN (h := fun K hK => ?_)
     have hKp := VN.keepJ (.bool pr) (.slice ar nr cr)
     have VA_n := VA.other2 (R := R4) (by omega) (.bool pr) (.slice ar nr cr)
     have VN_n := VN.same (.bool pr) (.slice ar nr cr)
     have hz_n := hz.keep hKp
     have hx_n := hx.keep hKp
     have hp_n := hp.keep hKp
     have htt_n := htt.keep hKp
     have hr_n := hr.keep hKp
     have BB_n := below_store2 (R := R4) BB (by omega) (.bool pr) (.slice ar nr cr)
     clear hKp
     obtain ⟨VN_0,VN_1,VN_2,VN_3⟩ := id VN
     go_simp
     clear VN_0 VN_1 VN_2 VN_3
     clear BB hz hx hp htt hr VA VN
     generalize (w4.setCell ⟨R4,0,none⟩ (.bool pr)).setCell ⟨R4,1,none⟩ (.slice ar nr cr) = W5 at *
     have BB := BB_n
     have hz := hz_n
     have hx := hx_n
     have hp := hp_n
     have htt := htt_n
     have hr := hr_n
     have VA := VA_n
     have VN := VN_n
     clear BB_n hz_n hx_n hp_n htt_n hr_n VA_n VN_n
     refine hK.out _ _ ?_ (fun hH5 => ?_)
     ·exact ⟨VA.1,VA.2.1,VA.2.2.1⟩
     clear hK K hH4
     (try simp only [Act.put,xL4,xL5,xL6])
     refine wpAnyH_done (by kernel_rfl) ?_ _
     clear hH5
     go_wp2_with fail
     go_meet
     exact ⟨R4,pr,ar,nr,cr,rfl,VN,hr,BB⟩
    exact AllReadyH.nil
   refine xC (h := fun K hK => ?_) (hs := ?_)
   ·
    go_simp
    have hZ6 : Wb0.heap.size ≤ w1.heap.size := BB.size
    have hN6VA : w.heap.size ≠ w1.heap.size := Nat.ne_of_lt VA.lt
    obtain ⟨W6,hW6,hS6,hL6,VN⟩ := V2.lay w1 25 (.bool false) (.slice none 0 0)
    replace hz := hz.below hL6
    replace hx := hx.below hL6
    replace hp := hp.below hL6
    replace VA := VA.below hL6
    replace BB := BB.trans (hL6.mono BB.size)
    clear hL6
    rw [← hW6]
    generalize w1.heap.size = R6 at *
    clear hW6 hS6
    refine hK.out _ _ ?_ (fun hH2 => ?_)
    ·exact ⟨VA.1,VA.2.1,VA.2.2.1⟩
    clear hK K hH1
    (try simp only [Act.put,xL4,xL5,xL6])
    refine xR [4] (h := ?_)
    refine xN (h := fun K hK => ?_)
    go_simp
    refine (times_at _ _ _ _ L 21 _ hz (hp.at _ n3) (by omega)).mono ?_
    rintro e w5 ⟨tt,rfl,htt,b5⟩
    obtain ⟨pt,at_,nt,ct,rfl⟩ := htt.open
    go_wp2_with fail
    replace hz := hz.below b5
    replace hx := hx.below b5
    replace hp := hp.below b5
    replace VA := VA.below b5
    replace VN := VN.below b5
    replace BB := BB.trans (b5.mono BB.size)
    clear b5
    refine hK.out _ _ ?_ (fun hH3 => ?_)
    ·exact ⟨VA.1,VA.2.1,VA.2.2.1⟩
    clear hK K hH2
    (try simp only [Act.put,xL4,xL5,xL6])
    refine xT 7 (v := ?_) (hy := Or.inl ⟨by rfl,?_⟩) (h := ?_)
    rotate_left
    ·(intro w hSw; (try dsimp only at hSw); go_simp; (try with_reducible rfl))
    (try simp only [Act.put,xL4,xL5,xL6])
    refine xR [8] (h := ?_)
    refine xN (h := fun K hK => ?_)
    go_simp
    refine (qround_at _ (q * ((10 ^ k : Nat) : Rat)) (L + 21) _ (by rw [← HS.out]; exact RatAt.mk (htt.at _ (nlz_mul hz.nl (by rw [Int.natAbs_natCast]; exact n3) (Nat.le_refl _))) (hx.le (by omega))) (by omega) (by omega)).mono ?_
    rintro e w6 ⟨rr,rfl,hr,b6⟩
    rw [HR.out] at hr
    obtain ⟨pr,ar,nr,cr,rfl⟩ := hr.open
    go_wp2_with fail
    replace hz := hz.below b6
    replace hx := hx.below b6
    replace hp := hp.below b6
    replace htt := htt.below b6
    replace VA := VA.below b6
    replace VN := VN.below b6
    replace BB := BB.trans (b6.mono BB.size)
    clear b6
    refine hK.out _ _ ?_ (fun hH4 => ?_)
    ·exact ⟨VA.1,VA.2.1,VA.2.2.1⟩
    clear hK K hH3
    (try simp only [Act.put,xL4,xL5,xL6])
    refine xR [10] (h := ?_)
    refine xN (h := fun K hK => ?_)
    have hKp := VN.keepJ (.bool pr) (.slice ar nr cr)
    have VA_n := VA.other2 (R := R6) (by omega) (.bool pr) (.slice ar nr cr)
    have VN_n := VN.same (.bool pr) (.slice ar nr cr)
    have hz_n := hz.keep hKp
    have hx_n := hx.keep hKp
    have hp_n := hp.keep hKp
    have htt_n := htt.keep hKp
    have hr_n := hr.keep hKp
    have BB_n := below_store2 (R := R6) BB (by omega) (.bool pr) (.slice ar nr cr)
    clear hKp
    obtain ⟨VN_0,VN_1,VN_2,VN_3⟩ := id VN
    go_simp
    clear VN_0 VN_1 VN_2 VN_3
    clear BB hz hx hp htt hr VA VN
    generalize (w6.setCell ⟨R6,0,none⟩ (.bool pr)).setCell ⟨R6,1,none⟩ (.slice ar nr cr) = W7 at *
    have BB := BB_n
    have hz := hz_n
    have hx := hx_n
    have hp := hp_n
    have htt := htt_n
    have hr := hr_n
    have VA := VA_n
    have VN := VN_n
    clear BB_n hz_n hx_n hp_n htt_n hr_n VA_n VN_n
    refine hK.out _ _ ?_ (fun hH5 => ?_)
    ·exact ⟨VA.1,VA.2.1,VA.2.2.1⟩
    clear hK K hH4
    (try simp only [Act.put,xL4,xL5,xL6])
    refine wpAnyH_done (by kernel_rfl) ?_ _
    clear hH5
    go_wp2_with fail
    go_meet
    exact ⟨R6,pr,ar,nr,cr,rfl,VN,hr,BB⟩
   exact AllReadyH.nil
  refine xC (h := fun K hK => ?_) (hs := ?_)
  ·
   go_simp
   have hZ8 : Wb0.heap.size ≤ W1.heap.size := BB.size
   have hN8VA : w.heap.size ≠ W1.heap.size := Nat.ne_of_lt VA.lt
   obtain ⟨W8,hW8,hS8,hL8,VN⟩ := V2.lay W1 25 (.bool false) (.slice none 0 0)
   replace hz := hz.below hL8
   replace hx := hx.below hL8
   replace VA := VA.below hL8
   replace BB := BB.trans (hL8.mono BB.size)
   clear hL8
   rw [← hW8]
   generalize W1.heap.size = R8 at *
   clear hW8 hS8
   refine hK.out _ _ ?_ (fun hH1 => ?_)
   ·exact ⟨VA.1,VA.2.1,VA.2.2.1⟩
   clear hK K hHeld
   (try simp only [Act.put,xL4,xL5,xL6])
   refine xR [3] (h := ?_)
   refine xN (h := fun K hK => ?_)
   go_simp
   refine (powTen_at k _ (by omega)).mono ?_
   rintro e w7 ⟨tp,rfl,hp,b7⟩
   go_wp2_with fail
   replace hz := hz.below b7
   replace hx := hx.below b7
   replace VA := VA.below b7
   replace VN := VN.below b7
   replace BB := BB.trans (b7.mono BB.size)
   clear b7
   refine hK.out _ _ ?_ (fun hH2 => ?_)
   ·exact ⟨VA.1,VA.2.1,VA.2.2.1⟩
   clear hK K hH1
   (try simp only [Act.put,xL4,xL5,xL6])
   refine xR [4] (h := ?_)
   refine xN (h := fun K hK => ?_)
   go_simp
   refine (times_at _ _ _ _ L 21 _ hz (hp.at _ n3) (by omega)).mono ?_
   rintro e w8 ⟨tt,rfl,htt,b8⟩
   obtain ⟨pt,at_,nt,ct,rfl⟩ := htt.open
   go_wp2_with fail
   replace hz := hz.below b8
   replace hx := hx.below b8
   replace hp := hp.below b8
   replace VA := VA.below b8
   replace VN := VN.below b8
   replace BB := BB.trans (b8.mono BB.size)
   clear b8
   refine hK.out _ _ ?_ (fun hH3 => ?_)
   ·exact ⟨VA.1,VA.2.1,VA.2.2.1⟩
   clear hK K hH2
   (try simp only [Act.put,xL4,xL5,xL6])
   refine xT 7 (v := ?_) (hy := Or.inl ⟨by rfl,?_⟩) (h := ?_)
   rotate_left
   ·(intro w hSw; (try dsimp only at hSw); go_simp; (try with_reducible rfl))
   (try simp only [Act.put,xL4,xL5,xL6])
   refine xR [8] (h := ?_)
   refine xN (h := fun K hK => ?_)
   go_simp
   refine (qround_at _ (q * ((10 ^ k : Nat) : Rat)) (L + 21) _ (by rw [← HS.out]; exact RatAt.mk (htt.at _ (nlz_mul hz.nl (by rw [Int.natAbs_natCast]; exact n3) (Nat.le_refl _))) (hx.le (by omega))) (by omega) (by omega)).mono ?_
   rintro e w9 ⟨rr,rfl,hr,b9⟩
   rw [HR.out] at hr
   obtain ⟨pr,ar,nr,cr,rfl⟩ := hr.open
   go_wp2_with fail
   replace hz := hz.below b9
   replace hx := hx.below b9
   replace hp := hp.below b9
   replace htt := htt.below b9
   replace VA := VA.below b9
   replace VN := VN.below b9
   replace BB := BB.trans (b9.mono BB.size)
   clear b9
   refine hK.out _ _ ?_ (fun hH4 => ?_)
   ·exact ⟨VA.1,VA.2.1,VA.2.2.1⟩
   clear hK K hH3
   (try simp only [Act.put,xL4,xL5,xL6])
   refine xR [10] (h := ?_)
   refine xN (h := fun K hK => ?_)
   have hKp := VN.keepJ (.bool pr) (.slice ar nr cr)
   have VA_n := VA.other2 (R := R8) (by omega) (.bool pr) (.slice ar nr cr)
   have VN_n := VN.same (.bool pr) (.slice ar nr cr)
   have hz_n := hz.keep hKp
   have hx_n := hx.keep hKp
   have hp_n := hp.keep hKp
   have htt_n := htt.keep hKp
   have hr_n := hr.keep hKp
   have BB_n := below_store2 (R := R8) BB (by omega) (.bool pr) (.slice ar nr cr)
   clear hKp
   obtain ⟨VN_0,VN_1,VN_2,VN_3⟩ := id VN
   go_simp
   clear VN_0 VN_1 VN_2 VN_3
   clear BB hz hx hp htt hr VA VN
   generalize (w9.setCell ⟨R8,0,none⟩ (.bool pr)).setCell ⟨R8,1,none⟩ (.slice ar nr cr) = W9 at *
   have BB := BB_n
   have hz := hz_n
   have hx := hx_n
   have hp := hp_n
   have htt := htt_n
   have hr := hr_n
   have VA := VA_n
   have VN := VN_n
   clear BB_n hz_n hx_n hp_n htt_n hr_n VA_n VN_n
   refine hK.out _ _ ?_ (fun hH5 => ?_)
   ·exact ⟨VA.1,VA.2.1,VA.2.2.1⟩
   clear hK K hH4
   (try simp only [Act.put,xL4,xL5,xL6])
   refine wpAnyH_done (by kernel_rfl) ?_ _
   clear hH5
   go_wp2_with fail
   go_meet
   exact ⟨R8,pr,ar,nr,cr,rfl,VN,hr,BB⟩
  exact AllReadyH.nil
 case rest =>
  obtain ⟨RN,pr,ar,nr,cr,rfl,VN,hr,hbW⟩ := hcut
  replace hz := hz.below hbW
  replace hx := hx.below hbW
  replace VA := VA.below hbW
  replace BB := BB.trans (hbW.mono BB.size)
  clear hbW
  clear hz hx
  clear VA HS n3 s3
  have hpr : pr = decide (N < 0) := by
   obtain ⟨ao5,c5,e5,_⟩ := id hr
   simp only [Value.agg.injEq,Array.mk.injEq,List.cons.injEq,Value.bool.injEq] at e5
   exact e5.1
  obtain ⟨VN_0,VN_1,VN_2,VN_3⟩ := id VN
  go_wp2_with fail
  clear VN_0 VN_1 VN_2 VN_3
  refine (nprint_at _ N.natAbs (L + 23) _ (hr.abs.at (L + 23) l4) (by omega)).mono ?_
  rintro e w1 ⟨rfl,b1⟩
  replace hr := hr.below b1
  replace VN := VN.below b1
  replace BB := BB.trans (b1.mono BB.size)
  clear b1
  have ts := txt_small N.natAbs (L + 23) l4
  have tp := ndec_pos N.natAbs
  rw [← txt_size] at tp
  have HF : Hid (pad N.natAbs k = if (txt N.natAbs).size ≤ k then zeros (k + 1 - (txt N.natAbs).size) ++ txt N.natAbs else txt N.natAbs) := rfl
  have HD : Hid (decTxt N k = if N < 0 then { data := #[45] } ++ dec0 N.natAbs k else dec0 N.natAbs k) := rfl
  have HD0 : Hid (dec0 N.natAbs k = if k = 0 then pad N.natAbs k else (pad N.natAbs k).extract 0 ((pad N.natAbs k).size - k) ++ { data := #[46] } ++ (pad N.natAbs k).extract ((pad N.natAbs k).size - k) (pad N.natAbs k).size) := rfl
  have ps := pad_size N.natAbs k
  generalize txt N.natAbs = T at *
  generalize pad N.natAbs k = P at *
  generalize dec0 N.natAbs k = D at *
  generalize decTxt N k = E at *
  have hwl : IntKind.i64.wrap ((k : Int) + 1 - (T.size : Int)) = (k : Int) + 1 - (T.size : Int) := by rw [IntKind.wrap_i64]; omega
  have hwk : IntKind.i64.wrap ((k : Int) + 1) = (k : Int) + 1 := by rw [IntKind.wrap_i64]; omega
  by_cases hl : T.size ≤ k
  ·have hPl : P = zeros (k + 1 - T.size) ++ T := by rw [HF.out,if_pos hl]
   have hk0 : ¬ k = 0 := by omega
   have hDP : D = P.extract 0 (P.size - k) ++ { data := #[46] } ++ P.extract (P.size - k) P.size := by rw [HD0.out,if_neg hk0]
   have hg : (0 : Int) < (k : Int) + 1 - (T.size : Int) := by omega
   have hg2 : (k : Int) + 1 - (T.size : Int) = ((k + 1 - T.size : Nat) : Int) := by omega
   have hc : (0 : Int) < (k : Int) := by omega
   have hlk : 1 ≤ k + 1 - T.size ∧ k + 1 - T.size ≤ 64 := by omega
   have zs := zeros_size (k + 1 - T.size)
   have HPL : Hid (zeros (k + 1 - T.size) ++ T = P) := hPl.symm
   have HDP : Hid _ := hDP
   clear HF HD0 hPl hDP
   go_wp2_with fail
   refine (repeat_zeros (k + 1 - T.size) _ hlk.1 hlk.2).mono ?_
   rintro e w2 ⟨rfl,b2⟩
   replace hr := hr.below b2
   replace VN := VN.below b2
   replace BB := BB.trans (b2.mono BB.size)
   clear b2
   have n5 : ¬ 9223372036854775807 < (zeros (k + 1 - T.size)).size + T.size := by omega
   have HPS := HPL.out
   have hDP := HDP.out
   have hPz : P.size ≤ 1000 := by omega
   clear HDP HPL
   generalize zeros (k + 1 - T.size) = Q at *
   clear hg hg2 hwl hwk hlk zs
   have o1 : (0 : Int) ≤ (P.size : Int) - (k : Int) := by omega
   have hws : IntKind.i64.wrap ((P.size : Int) - (k : Int)) = ((P.size - k : Nat) : Int) := by rw [IntKind.wrap_i64]; omega
   have o2 : ((P.size - k : Nat) : Int) ≤ (P.size : Int) := by omega
   have o3 : (0 : Int) ≤ ((P.size - k : Nat) : Int) := by omega
   have z1 : (P.extract 0 (P.size - k)).size ≤ P.size := ext_le _ _ _
   have z2 : (P.extract (P.size - k) P.size).size ≤ P.size := ext_le _ _ _
   have m1 : ¬ 9223372036854775807 < (P.extract 0 (P.size - k)).size + 1 := by omega
   have m2 : ¬ 9223372036854775807 < (P.extract 0 (P.size - k)).size + 1 + (P.extract (P.size - k) P.size).size := by omega
   obtain ⟨a,ha⟩ : ∃ a,P.size - k = a := ⟨_,rfl⟩
   rw [ha] at hws o2 o3 z1 z2 m1 m2 hDP
   generalize hA : P.extract 0 a = A at *
   generalize hC : P.extract a P.size = C at *
   go_wp2
   have hDr : Below w2.heap.size w2 w2.drew := (Below.refl _ _).drew
   replace hr := hr.below hDr
   replace VN := VN.below hDr
   replace BB := BB.trans (hDr.mono BB.size)
   clear hDr
   refine wp_region_held_drew (S := (fun w' => True)) (by kernel_rfl) ?_ (fun hHeld => ?_)
   ·trivial
   generalize w2.drew = W1 at *
   refine xT 0 (v := ?_) (hy := Or.inl ⟨by rfl,?_⟩) (h := ?_)
   rotate_left
   ·(intro w hSw; (try dsimp only at hSw); go_simp; (try with_reducible rfl))
   (try simp only [Act.put,xL4,xL5,xL6])
   refine xT 1 (v := ?_) (hy := Or.inl ⟨by rfl,?_⟩) (h := ?_)
   rotate_left
   ·(intro w hSw; (try dsimp only at hSw); go_simp; (try with_reducible rfl))
   (try simp only [Act.put,xL4,xL5,xL6])
   refine xT 2 (v := ?_) (hy := Or.inl ⟨by rfl,?_⟩) (h := ?_)
   rotate_left
   ·(intro w hSw; (try dsimp only at hSw); go_simp; (try with_reducible rfl))
   (try simp only [Act.put,xL4,xL5,xL6])
   refine xT 3 (v := ?_) (hy := Or.inl ⟨by rfl,?_⟩) (h := ?_)
   rotate_left
   ·(intro w hSw; (try dsimp only at hSw); go_simp; (try with_reducible rfl))
   (try simp only [Act.put,xL4,xL5,xL6])
   refine xT 4 (v := ?_) (hy := Or.inl ⟨by rfl,?_⟩) (h := ?_)
   rotate_left
   ·(intro w hSw; (try dsimp only at hSw); go_simp; (try with_reducible rfl))
   (try simp only [Act.put,xL4,xL5,xL6])
   refine xT 5 (v := ?_) (hy := Or.inl ⟨by rfl,?_⟩) (h := ?_)
   rotate_left
   ·(intro w hSw; (try dsimp only at hSw); go_simp; (try with_reducible rfl))
   (try simp only [Act.put,xL4,xL5,xL6])
   refine xT 6 (v := ?_) (hy := Or.inl ⟨by rfl,?_⟩) (h := ?_)
   rotate_left
   ·(intro w hSw; (try dsimp only at hSw); go_simp; (try with_reducible rfl))
   (try simp only [Act.put,xL4,xL5,xL6])
   refine xT 7 (v := ?_) (hy := Or.inl ⟨by rfl,?_⟩) (h := ?_)
   rotate_left
   ·(intro w hSw; (try dsimp only at hSw); go_simp; (try with_reducible rfl))
   (try simp only [Act.put,xL4,xL5,xL6])
   refine xT 8 (v := ?_) (hy := Or.inl ⟨by rfl,?_⟩) (h := ?_)
   rotate_left
   ·(intro w hSw; (try dsimp only at hSw); go_simp; (try with_reducible rfl))
   (try simp only [Act.put,xL4,xL5,xL6])
   refine wpAnyH_done (by kernel_rfl) ?_ _
   clear hHeld
   have HDD : D = A ++ { data := #[46] } ++ C := hDP
   clear hDP
   have hDs : D.size ≤ 3000 := by rw [HDD,ByteArray.size_append,ByteArray.size_append,point_size]; omega
   by_cases hneg : N < 0
   ·have hpv : pr = true := by rw [hpr]; exact decide_eq_true hneg
    subst hpv
    have HX2 : Hid (decTxt (roundQ (q * ((10 ^ k : Nat) : Rat))) k = { data := #[45] } ++ D) := by show _ = _; rw [HX.out,HD.out,if_pos hneg]
    clear hpr hneg
    have n9 : ¬ 9223372036854775807 < 1 + D.size := by omega
    have n10 : ¬ 9223372036854775807 < D.size + 1 := by omega
    obtain ⟨VN_0,VN_1,VN_2,VN_3⟩ := id VN
    go_wp2
    clear VN_0 VN_1 VN_2 VN_3
    go_ret2
    refine ⟨?_,BB⟩
    rw [HX2.out,HDD]
    rfl
   ·have hpv : pr = false := by rw [hpr]; exact decide_eq_false hneg
    subst hpv
    have HX2 : Hid (decTxt (roundQ (q * ((10 ^ k : Nat) : Rat))) k = D) := by show _ = _; rw [HX.out,HD.out,if_neg hneg]
    clear hpr hneg
    obtain ⟨VN_0,VN_1,VN_2,VN_3⟩ := id VN
    go_wp2
    clear VN_0 VN_1 VN_2 VN_3
    go_ret2
    refine ⟨?_,BB⟩
    rw [HX2.out,HDD]
    rfl
  ·have hPl : P = T := by rw [HF.out,if_neg hl]
   subst hPl
   have hg : ¬ (0 : Int) < (k : Int) + 1 - (P.size : Int) := by omega
   have hPz : P.size ≤ 1000 := by omega
   clear HF hl
   by_cases hk0 : k = 0
   ·have hDP : D = P := by rw [HD0.out,if_pos hk0]
    subst hDP
    have hc : ¬ (0 : Int) < (k : Int) := by omega
    clear HD0
    by_cases hneg : N < 0
    ·have hpv : pr = true := by rw [hpr]; exact decide_eq_true hneg
     subst hpv
     have HX2 : Hid (decTxt (roundQ (q * ((10 ^ k : Nat) : Rat))) k = { data := #[45] } ++ D) := by show _ = _; rw [HX.out,HD.out,if_pos hneg]
     clear hpr hneg
     have n9 : ¬ 9223372036854775807 < 1 + D.size := by omega
     have n10 : ¬ 9223372036854775807 < D.size + 1 := by omega
     obtain ⟨VN_0,VN_1,VN_2,VN_3⟩ := id VN
     go_wp2
     clear VN_0 VN_1 VN_2 VN_3
     go_ret2
     refine ⟨?_,BB⟩
     rw [HX2.out]
     rfl
    ·have hpv : pr = false := by rw [hpr]; exact decide_eq_false hneg
     subst hpv
     have HX2 : Hid (decTxt (roundQ (q * ((10 ^ k : Nat) : Rat))) k = D) := by show _ = _; rw [HX.out,HD.out,if_neg hneg]
     clear hpr hneg
     obtain ⟨VN_0,VN_1,VN_2,VN_3⟩ := id VN
     go_wp2
     clear VN_0 VN_1 VN_2 VN_3
     go_ret2
     refine ⟨?_,BB⟩
     rw [HX2.out]
     rfl
   ·have hDP : D = P.extract 0 (P.size - k) ++ { data := #[46] } ++ P.extract (P.size - k) P.size := by rw [HD0.out,if_neg hk0]
    have hc : (0 : Int) < (k : Int) := by omega
    clear HD0
    have o1 : (0 : Int) ≤ (P.size : Int) - (k : Int) := by omega
    have hws : IntKind.i64.wrap ((P.size : Int) - (k : Int)) = ((P.size - k : Nat) : Int) := by rw [IntKind.wrap_i64]; omega
    have o2 : ((P.size - k : Nat) : Int) ≤ (P.size : Int) := by omega
    have o3 : (0 : Int) ≤ ((P.size - k : Nat) : Int) := by omega
    have z1 : (P.extract 0 (P.size - k)).size ≤ P.size := ext_le _ _ _
    have z2 : (P.extract (P.size - k) P.size).size ≤ P.size := ext_le _ _ _
    have m1 : ¬ 9223372036854775807 < (P.extract 0 (P.size - k)).size + 1 := by omega
    have m2 : ¬ 9223372036854775807 < (P.extract 0 (P.size - k)).size + 1 + (P.extract (P.size - k) P.size).size := by omega
    obtain ⟨a,ha⟩ : ∃ a,P.size - k = a := ⟨_,rfl⟩
    rw [ha] at hws o2 o3 z1 z2 m1 m2 hDP
    generalize hA : P.extract 0 a = A at *
    generalize hC : P.extract a P.size = C at *
    go_wp2
    have hDr : Below w1.heap.size w1 w1.drew := (Below.refl _ _).drew
    replace hr := hr.below hDr
    replace VN := VN.below hDr
    replace BB := BB.trans (hDr.mono BB.size)
    clear hDr
    refine wp_region_held_drew (S := (fun w' => True)) (by kernel_rfl) ?_ (fun hHeld => ?_)
    ·trivial
    generalize w1.drew = W1 at *
    refine xT 0 (v := ?_) (hy := Or.inl ⟨by rfl,?_⟩) (h := ?_)
    rotate_left
    ·(intro w hSw; (try dsimp only at hSw); go_simp; (try with_reducible rfl))
    (try simp only [Act.put,xL4,xL5,xL6])
    refine xT 1 (v := ?_) (hy := Or.inl ⟨by rfl,?_⟩) (h := ?_)
    rotate_left
    ·(intro w hSw; (try dsimp only at hSw); go_simp; (try with_reducible rfl))
    (try simp only [Act.put,xL4,xL5,xL6])
    refine xT 2 (v := ?_) (hy := Or.inl ⟨by rfl,?_⟩) (h := ?_)
    rotate_left
    ·(intro w hSw; (try dsimp only at hSw); go_simp; (try with_reducible rfl))
    (try simp only [Act.put,xL4,xL5,xL6])
    refine xT 3 (v := ?_) (hy := Or.inl ⟨by rfl,?_⟩) (h := ?_)
    rotate_left
    ·(intro w hSw; (try dsimp only at hSw); go_simp; (try with_reducible rfl))
    (try simp only [Act.put,xL4,xL5,xL6])
    refine xT 4 (v := ?_) (hy := Or.inl ⟨by rfl,?_⟩) (h := ?_)
    rotate_left
    ·(intro w hSw; (try dsimp only at hSw); go_simp; (try with_reducible rfl))
    (try simp only [Act.put,xL4,xL5,xL6])
    refine xT 5 (v := ?_) (hy := Or.inl ⟨by rfl,?_⟩) (h := ?_)
    rotate_left
    ·(intro w hSw; (try dsimp only at hSw); go_simp; (try with_reducible rfl))
    (try simp only [Act.put,xL4,xL5,xL6])
    refine xT 6 (v := ?_) (hy := Or.inl ⟨by rfl,?_⟩) (h := ?_)
    rotate_left
    ·(intro w hSw; (try dsimp only at hSw); go_simp; (try with_reducible rfl))
    (try simp only [Act.put,xL4,xL5,xL6])
    refine xT 7 (v := ?_) (hy := Or.inl ⟨by rfl,?_⟩) (h := ?_)
    rotate_left
    ·(intro w hSw; (try dsimp only at hSw); go_simp; (try with_reducible rfl))
    (try simp only [Act.put,xL4,xL5,xL6])
    refine xT 8 (v := ?_) (hy := Or.inl ⟨by rfl,?_⟩) (h := ?_)
    rotate_left
    ·(intro w hSw; (try dsimp only at hSw); go_simp; (try with_reducible rfl))
    (try simp only [Act.put,xL4,xL5,xL6])
    refine wpAnyH_done (by kernel_rfl) ?_ _
    clear hHeld
    have HDD : D = A ++ { data := #[46] } ++ C := hDP
    clear hDP
    have hDs : D.size ≤ 3000 := by rw [HDD,ByteArray.size_append,ByteArray.size_append,point_size]; omega
    by_cases hneg : N < 0
    ·have hpv : pr = true := by rw [hpr]; exact decide_eq_true hneg
     subst hpv
     have HX2 : Hid (decTxt (roundQ (q * ((10 ^ k : Nat) : Rat))) k = { data := #[45] } ++ D) := by show _ = _; rw [HX.out,HD.out,if_pos hneg]
     clear hpr hneg
     have n9 : ¬ 9223372036854775807 < 1 + D.size := by omega
     have n10 : ¬ 9223372036854775807 < D.size + 1 := by omega
     obtain ⟨VN_0,VN_1,VN_2,VN_3⟩ := id VN
     go_wp2
     clear VN_0 VN_1 VN_2 VN_3
     go_ret2
     refine ⟨?_,BB⟩
     rw [HX2.out,HDD]
     rfl
    ·have hpv : pr = false := by rw [hpr]; exact decide_eq_false hneg
     subst hpv
     have HX2 : Hid (decTxt (roundQ (q * ((10 ^ k : Nat) : Rat))) k = D) := by show _ = _; rw [HX.out,HD.out,if_neg hneg]
     clear hpr hneg
     obtain ⟨VN_0,VN_1,VN_2,VN_3⟩ := id VN
     go_wp2
     clear VN_0 VN_1 VN_2 VN_3
     go_ret2
     refine ⟨?_,BB⟩
     rw [HX2.out,HDD]
     rfl

theorem neg_mkRat (z : Int) (x : Nat) (hx : 0 < x) : z < 0 ↔ mkRat z x < 0 := by
 have h := cmpI_sign z x hx
 unfold cmpI cmpQ at h
 constructor
 ·intro g
  rw [if_pos g] at h
  by_cases k : mkRat z x < 0
  ·exact k
  ·rw [if_neg k] at h; split at h <;> omega
 ·intro g
  rw [if_pos g] at h
  by_cases k : z < 0
  ·exact k
  ·rw [if_neg k] at h; split at h <;> omega
theorem ten_back (N : Int) (d : Nat) : mkRat N (10 ^ d) * (((10 ^ d : Nat) : Int) : Rat) = (N : Rat) := by
 rw [Rat.mkRat_eq_div,Rat.intCast_natCast]
 have h : ((10 ^ d : Nat) : Rat) ≠ 0 := fun e => by have := Rat.natCast_eq_zero_iff.1 e; have := Nat.pow_pos (n := d) (show 0 < 10 by omega); omega
 generalize ((10 ^ d : Nat) : Rat) = T at *
 grind
theorem abs_near (Y : Rat) (h0 : mkRat (-1) 2 ≤ Y) (h1 : Y ≤ mkRat 1 2) : cmpQ (absQ Y) (mkRat 1 2) ≤ 0 ∧ (¬ cmpQ (absQ Y) (mkRat 1 2) < 0 → ¬ (mkRat (-1) 2 < Y ∧ Y < mkRat 1 2)) := by
 rw [half_pos] at *
 rw [half_neg] at *
 unfold absQ cmpQ
 by_cases g : Y < 0
 ·rw [if_pos g]
  by_cases k : -Y < 1 / 2
  ·rw [if_pos k]; exact ⟨by omega,fun h => absurd (by omega) h⟩
  ·rw [if_neg k,if_neg (by grind)]; exact ⟨by omega,fun _ h => by grind⟩
 ·rw [if_neg g]
  by_cases k : Y < 1 / 2
  ·rw [if_pos k]; exact ⟨by omega,fun h => absurd (by omega) h⟩
  ·rw [if_neg k,if_neg (by grind)]; exact ⟨by omega,fun _ h => by grind⟩
theorem fmod_len {w : World} {p : Bool} {ao : Option Addr} {n c : Nat} {N : Int} (h : RepJ w (.agg #[.bool p,.slice ao n c]) (N.fmod 2)) (he : N % 2 = 0) : n = 0 := by
 obtain ⟨ao5,c5,e5,_⟩ := id h
 simp only [Value.agg.injEq,Array.mk.injEq,List.cons.injEq,Value.bool.injEq,Value.slice.injEq,and_true] at e5
 obtain ⟨_,_,e6,_⟩ := e5
 rw [e6,show N.fmod 2 = 0 by rw [Int.fmod_eq_emod_of_nonneg _ (by omega)]; exact he]; exact nl_zero _
set_option maxRecDepth 20000 in
set_option maxHeartbeats 1000000 in
theorem decimal_range (v : Value) (q : Rat) (L : Nat) (k : Int) (w : World) (hv : RatAt w v q L) (hk : k < 0 ∨ 10000 < k) :
  Calls Tryz.prog 9 #[v,.int .i64 k] w fun e w' => e = .returned (.tuple #[.string { data := #[] },.int .i64 8]) ∧ Below w.heap.size w w' := by
 obtain ⟨p,ao,n,c,bo,m,d,rfl⟩ := hv.open
 rcases hk with hk | hk
 ·have BB : Below w.heap.size w w := Below.refl _ _
  obtain ⟨Wb0,hW0,hS0,hL0,VA⟩ := V3.lay w 27 (.bool p) (.slice ao n c) (.slice bo m d)
  replace BB := BB.trans (hL0.mono BB.size)
  clear hL0
  go_enter Tryz.func9,Tryz.ntmps9
  go_wp2
  rw [← hW0]
  clear hW0 hS0
  go_ret2
  exact ⟨rfl,BB⟩
 ·have hk2 : ¬ k < 0 := by omega
  have BB : Below w.heap.size w w := Below.refl _ _
  obtain ⟨Wb0,hW0,hS0,hL0,VA⟩ := V3.lay w 27 (.bool p) (.slice ao n c) (.slice bo m d)
  replace BB := BB.trans (hL0.mono BB.size)
  clear hL0
  go_enter Tryz.func9,Tryz.ntmps9
  go_wp2
  rw [← hW0]
  clear hW0 hS0
  go_ret2
  exact ⟨rfl,BB⟩
set_option maxRecDepth 20000 in
set_option maxHeartbeats 2000000 in
theorem jabs_at (u : Value) (q : Rat) (L : Nat) (w : World) (hu : DocQ w u q L) (hL : L ≤ 900) :
  Calls Tryz.prog 16 #[u] w fun e w' => ∃ x,e = .returned x ∧ DocQ w' x (absQ q) L ∧ Below w.heap.size w w' := by
 obtain ⟨p,ao,n,c,bo,m,d,rfl⟩ := hu.open
 have hpq : p = decide (q < 0) := by
  obtain ⟨z,x,hP,rfl⟩ := id hu
  obtain ⟨hz,_,hx0,_,_⟩ := hP.parts
  obtain ⟨ao5,c5,e5,_⟩ := id hz
  simp only [Value.agg.injEq,Array.mk.injEq,List.cons.injEq,Value.bool.injEq,and_true] at e5
  rw [e5.1]; exact decide_eq_decide.2 (neg_mkRat z x hx0)
 by_cases hq : q < 0
 ·have HA : Hid (absQ q = -q) := by show _ = _; unfold absQ; rw [if_pos hq]
  rw [decide_eq_true hq] at hpq
  subst hpq
  clear hq
  rw [HA.out]
  have BB : Below w.heap.size w w := Below.refl _ _
  obtain ⟨Wb0,hW0,hS0,hL0,VA⟩ := V3.lay w 38 (.bool true) (.slice ao n c) (.slice bo m d)
  replace hu := hu.below hL0
  replace BB := BB.trans (hL0.mono BB.size)
  clear hL0
  obtain ⟨Wb1,hW1,hS1,hL1,VR⟩ := V3.lay Wb0 38 (.bool false) (.slice none 0 0) (.slice none 0 0)
  rw [hS0] at VR hS1
  replace hu := hu.below hL1
  replace VA := VA.below hL1
  replace BB := BB.trans (hL1.mono BB.size)
  clear hL1
  go_enter Tryz.func16,Tryz.ntmps16
  go_wp2_with fail
  rw [← hW0]
  rw [← hW1]
  clear hW0 hW1 hS0 hS1
  refine (jminus_at _ q L _ hu hL).mono ?_
  rintro e w1 ⟨r1,rfl,h1,b1⟩
  replace hu := hu.below b1
  replace VA := VA.below b1
  replace VR := VR.below b1
  replace BB := BB.trans (b1.mono BB.size)
  clear b1
  obtain ⟨p1,a1,n1,c1,b1,m1,d1,rfl⟩ := h1.open
  have hKp := VR.keepJ (.bool p1) (.slice a1 n1 c1) (.slice b1 m1 d1)
  have hu_n := hu.keep hKp
  have h1_n := h1.keep hKp
  have BB_n := below_store3 (R := w.heap.size + 1) BB (by omega) (.bool p1) (.slice a1 n1 c1) (.slice b1 m1 d1)
  clear hKp
  obtain ⟨q1,q2,q3,q4,q5,q6⟩ := id VR
  go_wp2
  (try simp only [Exit.inBlock,Exit.then])
  refine bodyPost_ret (v := .agg #[.bool p1,.slice a1 n1 c1,.slice b1 m1 d1]) (by simp [results,go_sem,q1,q2,q3]) rfl ?_
  exact ⟨_,rfl,h1_n,BB_n⟩
 ·have HA : Hid (absQ q = q) := by show _ = _; unfold absQ; rw [if_neg hq]
  rw [decide_eq_false hq] at hpq
  subst hpq
  clear hq
  rw [HA.out]
  have BB : Below w.heap.size w w := Below.refl _ _
  obtain ⟨Wb0,hW0,hS0,hL0,VA⟩ := V3.lay w 38 (.bool false) (.slice ao n c) (.slice bo m d)
  replace hu := hu.below hL0
  replace BB := BB.trans (hL0.mono BB.size)
  obtain ⟨Wb1,hW1,hS1,hL1,VR⟩ := V3.lay Wb0 38 (.bool false) (.slice ao n c) (.slice bo m d)
  rw [hS0] at VR
  replace hu := hu.below hL1
  replace BB := BB.trans (hL1.mono BB.size)
  obtain ⟨x1,x2,x3,x4,x5,x6⟩ := id VR
  rw [hW1,hW0] at x1 x2 x3 hu BB
  clear hL0 hL1 VA VR hW0 hW1 hS0 hS1 x4 x5 x6
  go_enter Tryz.func16,Tryz.ntmps16
  go_wp2
  (try simp only [Exit.inBlock,Exit.then])
  refine bodyPost_ret (v := .agg #[.bool false,.slice ao n c,.slice bo m d]) (by simp [results,go_sem,x1,x2,x3]) rfl ?_
  exact ⟨_,rfl,hu,BB⟩
end Go.Proofs.YtmbmboiefhmfmaaGreatDoor
