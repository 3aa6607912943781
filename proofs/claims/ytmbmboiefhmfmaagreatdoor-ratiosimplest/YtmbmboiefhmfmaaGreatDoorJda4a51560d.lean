/-
  Texts of mine, joined: what lies beneath the statement.
-/
import Derived.Test.YtmbmboiefhmfmaaGreatDoorJb1573f1f59
import Derived.Test.YtmbmboiefhmfmaaGreatDoorJd511a43bc4
import Derived.Test.YtmbmboiefhmfmaaGreatDoorJe72930667b
import Derived.Deep.CutRange
namespace Go.Proofs.YtmbmboiefhmfmaaGreatDoor
open Go.RowKit
set_option linter.unusedVariables false
set_option linter.unusedSimpArgs false
def ceilQ (x : Rat) : Int := -((-x).floor)
theorem ceil_le (x : Rat) (n : Int) : ceilQ x ≤ n ↔ x ≤ (n : Rat) := by
 unfold ceilQ
 have h : -n ≤ (-x).floor ↔ ((-n : Int) : Rat) ≤ -x := Rat.le_floor_iff
 rw [Rat.intCast_neg] at h
 constructor
 ·intro g
  have := h.1 (by omega)
  grind
 ·intro g
  have := h.2 (by grind)
  omega
def hit (a b : Rat) (d : Nat) : Prop := ceilQ (a * mkRat d 1) ≤ (b * mkRat d 1).floor
def pick (a b : Rat) (d : Nat) : Int := if (b * mkRat d 1).floor < 0 then (b * mkRat d 1).floor else if ceilQ (a * mkRat d 1) < 0 then 0 else ceilQ (a * mkRat d 1)
theorem qsz_sixty (k : Nat) (hk : k ≤ 61) : qsz (mkRat (k : Int) 1) ≤ 1 := nl_num_mkRat _ _ 1 (by rw [Int.natAbs_natCast]; exact nl_small7 _ (by omega)) nlw_one (by omega)
theorem nlfloor (b : Rat) (k L : Nat) (h : qsz b ≤ L) (hk : k ≤ 61) : nl W32 ((b * mkRat k 1).floor).natAbs ≤ L + 1 + 1 := qsz_floor _ (qsz_mul _ _ h (qsz_sixty k hk))
theorem nlceil (a : Rat) (k L : Nat) (h : qsz a ≤ L) (hk : k ≤ 61) : nl W32 (ceilQ (a * mkRat k 1)).natAbs ≤ L + 1 + 1 := by
 unfold ceilQ; rw [Int.natAbs_neg]
 exact qsz_floor _ (by rw [qsz_neg]; exact qsz_mul _ _ h (qsz_sixty k hk))
def DsOut (a b : Rat) (w : World) (e : Ending) (w' : World) : Prop :=
 ∃ p ao n c bo m d ok,e = .returned (.tuple #[.agg #[.bool p,.slice ao n c,.slice bo m d],.bool ok]) ∧ (ok = false → ∀ k,1 ≤ k → k ≤ 60 → ¬ hit a b k) ∧ (ok = true → ∃ k,1 ≤ k ∧ k ≤ 60 ∧ hit a b k ∧ (∀ j,1 ≤ j → j < k → ¬ hit a b j) ∧ DocQ w' (.agg #[.bool p,.slice ao n c,.slice bo m d]) ((pick a b k : Rat) * mkRat 1 k) 20) ∧ Below w.heap.size w w'
set_option maxRecDepth 20000 in
set_option maxHeartbeats 8000000 in
theorem dsimp_at (u v : Value) (a b : Rat) (L : Nat) (w : World) (hu : DocQ w u a L) (hv : DocQ w v b L) (hs1 : qsz a ≤ L) (hs2 : qsz b ≤ L) (hL : L ≤ 10) :
  Calls Tryz.prog 31 #[u,v,.int .i64 60] w fun e w' => DsOut a b w e w' := by
 obtain ⟨p,ao,n,c,bo,m,e,rfl⟩ := hu.open
 obtain ⟨p2,ao2,n2,c2,bo2,m2,e2,rfl⟩ := hv.open
 have BB : Below w.heap.size w w := Below.refl _ _
 obtain ⟨Wb0,hW0,hS0,hL0,VA⟩ := V3.lay w 38 (.bool p) (.slice ao n c) (.slice bo m e)
 replace hu := hu.below hL0
 replace hv := hv.below hL0
 replace BB := BB.trans (hL0.mono BB.size)
 clear hL0
 obtain ⟨Wb1,hW1,hS1,hL1,VB⟩ := V3.lay Wb0 38 (.bool p2) (.slice ao2 n2 c2) (.slice bo2 m2 e2)
 rw [hS0] at VB hS1
 replace hu := hu.below hL1
 replace hv := hv.below hL1
 replace VA := VA.below hL1
 replace BB := BB.trans (hL1.mono BB.size)
 clear hL1
 obtain ⟨Wb2,hW2,hS2,hL2,VR⟩ := V3.lay Wb1 38 (.bool false) (.slice none 0 0) (.slice none 0 0)
 rw [hS1] at VR hS2
 replace hu := hu.below hL2
 replace hv := hv.below hL2
 replace VA := VA.below hL2
 replace VB := VB.below hL2
 replace BB := BB.trans (hL2.mono BB.size)
 clear hL2
 go_enter Tryz.func31,Tryz.ntmps31
 go_wp2
 rw [← hW0]
 rw [← hW1]
 rw [← hW2]
 clear hW0 hW1 hW2 hS0 hS1 hS2
 go_loopw [8] (fun vd wr => ∃ d : Nat,1 ≤ d ∧ d ≤ 61 ∧ vd = .int .i64 (d : Int) ∧ Hid (∀ j,1 ≤ j → j < d → ¬ hit a b j) ∧ V3 wr w.heap.size (.bool p) (.slice ao n c) (.slice bo m e) ∧ V3 wr (w.heap.size + 1) (.bool p2) (.slice ao2 n2 c2) (.slice bo2 m2 e2) ∧ V3 wr (w.heap.size + 1 + 1) (.bool false) (.slice none 0 0) (.slice none 0 0) ∧ DocQ wr (.agg #[.bool p,.slice ao n c,.slice bo m e]) a L ∧ DocQ wr (.agg #[.bool p2,.slice ao2 n2 c2,.slice bo2 m2 e2]) b L ∧ Below w.heap.size w wr) (fun vd _ => (61 - intOf vd).toNat)
 case atStart => exact ⟨1,by omega,by omega,rfl,(fun j h1 h2 => by omega),VA,VB,VR,hu,hv,BB⟩
 case round =>
  clear VA VB VR hu hv BB
  obtain ⟨k,hk1,hk2,rfl,HNO,VA,VB,VR,hu,hv,BB⟩ := hrel
  by_cases hlt : k ≤ 60
  ·have c1 : (k : Int) ≤ 60 := by omega
   go_wp2
   go_cut [9] from 17 to 23 (fun sx wx => ∃ (RX : Nat) (px : Bool) (ax : Option Addr) (nx cx : Nat),sx = .pointer (some ⟨RX,0,none⟩) ∧ wr.heap.size ≤ RX ∧ V2 wx RX (.bool px) (.slice ax nx cx) ∧ RepJ wx (.agg #[.bool px,.slice ax nx cx]) (ceilQ (a * mkRat k 1)) ∧ Below wr.heap.size wr wx)
   case first =>
    clear BB
    have BB : Below wr.heap.size wr wr := Below.refl _ _
    have hDr : Below wr.heap.size wr wr.drew := (Below.refl _ _).drew
    replace hu := hu.below hDr
    replace hv := hv.below hDr
    replace VA := VA.below hDr
    replace VB := VB.below hDr
    replace VR := VR.below hDr
    replace BB := BB.trans (hDr.mono BB.size)
    clear hDr
    refine wp_region_held_drew (S := (fun w' => w'.cell? ⟨w.heap.size,0,none⟩ = some (.bool p) ∧ w'.cell? ⟨w.heap.size,1,none⟩ = some (.slice ao n c) ∧ w'.cell? ⟨w.heap.size,2,none⟩ = some (.slice bo m e))) (by kernel_rfl) ?_ (fun hHeld => ?_)
    ·exact ⟨VA.1,VA.2.1,VA.2.2.1⟩
    generalize wr.drew = W1 at *
    refine xT 0 (v := ?_) (hy := Or.inl ⟨by rfl,?_⟩) (h := ?_)
    rotate_left
    ·(intro w hSw; (try dsimp only at hSw); go_simp; (try with_reducible rfl))
    (try simp only [Act.put,xL4,xL5,xL6])
    refine xT 1 (v := ?_) (hy := Or.inl ⟨by rfl,?_⟩) (h := ?_)
    rotate_left
    ·(intro w hSw; (try dsimp only at hSw); go_simp; (try with_reducible rfl))
    (try simp only [Act.put,xL4,xL5,xL6])
    refine xR [2,7] (h := ?_)
    refine xC (h := fun K hK => ?_) (hs := ?_)
    ·
     go_simp
     refine (jsmall_at (k : Int) 1 _ (by omega) (by omega) (by omega) (by omega)).mono ?_
     rintro e w1 ⟨t1,rfl,h1,b1⟩
     go_wp2_with fail
     replace hu := hu.below b1
     replace hv := hv.below b1
     replace VA := VA.below b1
     replace VB := VB.below b1
     replace VR := VR.below b1
     replace BB := BB.trans (b1.mono BB.size)
     clear b1
     refine hK.out _ _ ?_ (fun hH1 => ?_)
     ·exact ⟨VA.1,VA.2.1,VA.2.2.1⟩
     clear hK K hHeld
     (try simp only [Act.put,xL4,xL5,xL6])
     refine xR [3,7] (h := ?_)
     refine xC (h := fun K hK => ?_) (hs := ?_)
     ·
      go_simp
      refine (jtimes_at _ _ a (mkRat k 1) L 2 _ hu h1 (by omega)).mono ?_
      rintro e w2 ⟨t2,rfl,h2,b2⟩
      go_wp2_with fail
      replace hu := hu.below b2
      replace hv := hv.below b2
      replace h1 := h1.below b2
      replace VA := VA.below b2
      replace VB := VB.below b2
      replace VR := VR.below b2
      replace BB := BB.trans (b2.mono BB.size)
      clear b2
      refine hK.out _ _ ?_ (fun hH2 => ?_)
      ·exact ⟨VA.1,VA.2.1,VA.2.2.1⟩
      clear hK K hH1
      (try simp only [Act.put,xL4,xL5,xL6])
      refine xR [4,7] (h := ?_)
      refine xC (h := fun K hK => ?_) (hs := ?_)
      ·
       go_simp
       refine (jminus_at _ (a * mkRat k 1) (L + 2) _ h2 (by omega)).mono ?_
       rintro e w3 ⟨t3,rfl,h3,b3⟩
       go_wp2_with fail
       replace hu := hu.below b3
       replace hv := hv.below b3
       replace h1 := h1.below b3
       replace h2 := h2.below b3
       replace VA := VA.below b3
       replace VB := VB.below b3
       replace VR := VR.below b3
       replace BB := BB.trans (b3.mono BB.size)
       clear b3
       refine hK.out _ _ ?_ (fun hH3 => ?_)
       ·exact ⟨VA.1,VA.2.1,VA.2.2.1⟩
       clear hK K hH2
       (try simp only [Act.put,xL4,xL5,xL6])
       refine xR [5,7] (h := ?_)
       refine xC (h := fun K hK => ?_) (hs := ?_)
       ·
        go_simp
        refine (jfloor_at _ (-(a * mkRat k 1)) (L + 2) _ h3 (by omega)).mono ?_
        rintro e w4 ⟨t4,rfl,h4,b4⟩
        go_wp2_with fail
        replace hu := hu.below b4
        replace hv := hv.below b4
        replace h1 := h1.below b4
        replace h2 := h2.below b4
        replace h3 := h3.below b4
        replace VA := VA.below b4
        replace VB := VB.below b4
        replace VR := VR.below b4
        replace BB := BB.trans (b4.mono BB.size)
        clear b4
        refine hK.out _ _ ?_ (fun hH4 => ?_)
        ·exact ⟨VA.1,VA.2.1,VA.2.2.1⟩
        clear hK K hH3
        (try simp only [Act.put,xL4,xL5,xL6])
        refine xR [6,7] (h := ?_)
        refine xC (h := fun K hK => ?_) (hs := ?_)
        ·
         go_simp
         refine (rminus_any _ _ _ h4).mono ?_
         rintro e w5 ⟨t5,rfl,JX,b5⟩
         obtain ⟨px,ax,nx,cx,rfl⟩ := JX.open
         go_wp2_with fail
         replace hu := hu.below b5
         replace hv := hv.below b5
         replace h1 := h1.below b5
         replace h2 := h2.below b5
         replace h3 := h3.below b5
         replace h4 := h4.below b5
         replace VA := VA.below b5
         replace VB := VB.below b5
         replace VR := VR.below b5
         replace BB := BB.trans (b5.mono BB.size)
         clear b5
         refine hK.out _ _ ?_ (fun hH5 => ?_)
         ·exact ⟨VA.1,VA.2.1,VA.2.2.1⟩
         clear hK K hH4
         (try simp only [Act.put,xL4,xL5,xL6])
         refine xR [7] (h := ?_)
         refine xN (h := fun K hK => ?_)
         go_simp
         have hZ2 : wr.heap.size ≤ w5.heap.size := BB.size
         have hN2VA : w.heap.size ≠ w5.heap.size := Nat.ne_of_lt VA.lt
         have hN2VB : w.heap.size + 1 ≠ w5.heap.size := Nat.ne_of_lt VB.lt
         have hN2VR : w.heap.size + 1 + 1 ≠ w5.heap.size := Nat.ne_of_lt VR.lt
         obtain ⟨W2,hW2,hS2,hL2,VX⟩ := V2.lay w5 36 (.bool false) (.slice none 0 0)
         replace hu := hu.below hL2
         replace hv := hv.below hL2
         replace h1 := h1.below hL2
         replace h2 := h2.below hL2
         replace h3 := h3.below hL2
         replace h4 := h4.below hL2
         replace JX := JX.below hL2
         replace VA := VA.below hL2
         replace VB := VB.below hL2
         replace VR := VR.below hL2
         replace BB := BB.trans (hL2.mono BB.size)
         clear hL2
         rw [← hW2]
         generalize w5.heap.size = R2 at *
         clear hW2 hS2
         refine hK.out _ _ ?_ (fun hH6 => ?_)
         ·exact ⟨VA.1,VA.2.1,VA.2.2.1⟩
         clear hK K hH5
         (try simp only [Act.put,xL4,xL5,xL6])
         refine xR [8] (h := ?_)
         refine xN (h := fun K hK => ?_)
         have hKp := VX.keepJ (.bool px) (.slice ax nx cx)
         have VA_n := VA.other2 (R := R2) (by omega) (.bool px) (.slice ax nx cx)
         have VB_n := VB.other2 (R := R2) (by omega) (.bool px) (.slice ax nx cx)
         have VR_n := VR.other2 (R := R2) (by omega) (.bool px) (.slice ax nx cx)
         have VX_n := VX.same (.bool px) (.slice ax nx cx)
         have hu_n := hu.keep hKp
         have hv_n := hv.keep hKp
         have h1_n := h1.keep hKp
         have h2_n := h2.keep hKp
         have h3_n := h3.keep hKp
         have h4_n := h4.keep hKp
         have JX_n := JX.keep hKp
         have BB_n := below_store2 (R := R2) BB (by omega) (.bool px) (.slice ax nx cx)
         clear hKp
         obtain ⟨VX_0,VX_1,VX_2,VX_3⟩ := id VX
         go_simp
         clear VX_0 VX_1 VX_2 VX_3
         clear BB hu hv h1 h2 h3 h4 JX VA VB VR VX
         generalize (W2.setCell ⟨R2,0,none⟩ (.bool px)).setCell ⟨R2,1,none⟩ (.slice ax nx cx) = W3 at *
         have BB := BB_n
         have hu := hu_n
         have hv := hv_n
         have h1 := h1_n
         have h2 := h2_n
         have h3 := h3_n
         have h4 := h4_n
         have JX := JX_n
         have VA := VA_n
         have VB := VB_n
         have VR := VR_n
         have VX := VX_n
         clear BB_n hu_n hv_n h1_n h2_n h3_n h4_n JX_n VA_n VB_n VR_n VX_n
         refine hK.out _ _ ?_ (fun hH7 => ?_)
         ·exact ⟨VA.1,VA.2.1,VA.2.2.1⟩
         clear hK K hH6
         (try simp only [Act.put,xL4,xL5,xL6])
         refine wpAnyH_done (by kernel_rfl) ?_ _
         clear hH7
         go_wp2_with fail
         go_meet
         exact ⟨R2,px,ax,nx,cx,rfl,by omega,VX,JX,BB⟩
        refine xC (h := fun K hK => ?_) (hs := ?_)
        ·
         go_simp
         have hZ4 : wr.heap.size ≤ w4.heap.size := BB.size
         have hN4VA : w.heap.size ≠ w4.heap.size := Nat.ne_of_lt VA.lt
         have hN4VB : w.heap.size + 1 ≠ w4.heap.size := Nat.ne_of_lt VB.lt
         have hN4VR : w.heap.size + 1 + 1 ≠ w4.heap.size := Nat.ne_of_lt VR.lt
         obtain ⟨W4,hW4,hS4,hL4,VX⟩ := V2.lay w4 36 (.bool false) (.slice none 0 0)
         replace hu := hu.below hL4
         replace hv := hv.below hL4
         replace h1 := h1.below hL4
         replace h2 := h2.below hL4
         replace h3 := h3.below hL4
         replace h4 := h4.below hL4
         replace VA := VA.below hL4
         replace VB := VB.below hL4
         replace VR := VR.below hL4
         replace BB := BB.trans (hL4.mono BB.size)
         clear hL4
         rw [← hW4]
         generalize w4.heap.size = R4 at *
         clear hW4 hS4
         refine hK.out _ _ ?_ (fun hH5 => ?_)
         ·exact ⟨VA.1,VA.2.1,VA.2.2.1⟩
         clear hK K hH4
         (try simp only [Act.put,xL4,xL5,xL6])
         refine xR [6] (h := ?_)
         refine xN (h := fun K hK => ?_)
         go_simp
         refine (rminus_any _ _ _ h4).mono ?_
         rintro e w6 ⟨t5,rfl,JX,b6⟩
         obtain ⟨px,ax,nx,cx,rfl⟩ := JX.open
         go_wp2_with fail
         replace hu := hu.below b6
         replace hv := hv.below b6
         replace h1 := h1.below b6
         replace h2 := h2.below b6
         replace h3 := h3.below b6
         replace h4 := h4.below b6
         replace VA := VA.below b6
         replace VB := VB.below b6
         replace VR := VR.below b6
         replace VX := VX.below b6
         replace BB := BB.trans (b6.mono BB.size)
         clear b6
         refine hK.out _ _ ?_ (fun hH6 => ?_)
         ·exact ⟨VA.1,VA.2.1,VA.2.2.1⟩
         clear hK K hH5
         (try simp only [Act.put,xL4,xL5,xL6])
         refine xR [8] (h := ?_)
         refine xN (h := fun K hK => ?_)
         have hKp := VX.keepJ (.bool px) (.slice ax nx cx)
         have VA_n := VA.other2 (R := R4) (by omega) (.bool px) (.slice ax nx cx)
         have VB_n := VB.other2 (R := R4) (by omega) (.bool px) (.slice ax nx cx)
         have VR_n := VR.other2 (R := R4) (by omega) (.bool px) (.slice ax nx cx)
         have VX_n := VX.same (.bool px) (.slice ax nx cx)
         have hu_n := hu.keep hKp
         have hv_n := hv.keep hKp
         have h1_n := h1.keep hKp
         have h2_n := h2.keep hKp
         have h3_n := h3.keep hKp
         have h4_n := h4.keep hKp
         have JX_n := JX.keep hKp
         have BB_n := below_store2 (R := R4) BB (by omega) (.bool px) (.slice ax nx cx)
         clear hKp
         obtain ⟨VX_0,VX_1,VX_2,VX_3⟩ := id VX
         go_simp
         clear VX_0 VX_1 VX_2 VX_3
         clear BB hu hv h1 h2 h3 h4 JX VA VB VR VX
         generalize (w6.setCell ⟨R4,0,none⟩ (.bool px)).setCell ⟨R4,1,none⟩ (.slice ax nx cx) = W5 at *
         have BB := BB_n
         have hu := hu_n
         have hv := hv_n
         have h1 := h1_n
         have h2 := h2_n
         have h3 := h3_n
         have h4 := h4_n
         have JX := JX_n
         have VA := VA_n
         have VB := VB_n
         have VR := VR_n
         have VX := VX_n
         clear BB_n hu_n hv_n h1_n h2_n h3_n h4_n JX_n VA_n VB_n VR_n VX_n
         refine hK.out _ _ ?_ (fun hH7 => ?_)
         ·exact ⟨VA.1,VA.2.1,VA.2.2.1⟩
         clear hK K hH6
         (try simp only [Act.put,xL4,xL5,xL6])
         refine wpAnyH_done (by kernel_rfl) ?_ _
         clear hH7
         go_wp2_with fail
         go_meet
         exact ⟨R4,px,ax,nx,cx,rfl,by omega,VX,JX,BB⟩
        exact AllReadyH.nil
       refine xC (h := fun K hK => ?_) (hs := ?_)
       ·
        go_simp
        have hZ6 : wr.heap.size ≤ w3.heap.size := BB.size
        have hN6VA : w.heap.size ≠ w3.heap.size := Nat.ne_of_lt VA.lt
        have hN6VB : w.heap.size + 1 ≠ w3.heap.size := Nat.ne_of_lt VB.lt
        have hN6VR : w.heap.size + 1 + 1 ≠ w3.heap.size := Nat.ne_of_lt VR.lt
        obtain ⟨W6,hW6,hS6,hL6,VX⟩ := V2.lay w3 36 (.bool false) (.slice none 0 0)
        replace hu := hu.below hL6
        replace hv := hv.below hL6
        replace h1 := h1.below hL6
        replace h2 := h2.below hL6
        replace h3 := h3.below hL6
        replace VA := VA.below hL6
        replace VB := VB.below hL6
        replace VR := VR.below hL6
        replace BB := BB.trans (hL6.mono BB.size)
        clear hL6
        rw [← hW6]
        generalize w3.heap.size = R6 at *
        clear hW6 hS6
        refine hK.out _ _ ?_ (fun hH4 => ?_)
        ·exact ⟨VA.1,VA.2.1,VA.2.2.1⟩
        clear hK K hH3
        (try simp only [Act.put,xL4,xL5,xL6])
        refine xR [5] (h := ?_)
        refine xN (h := fun K hK => ?_)
        go_simp
        refine (jfloor_at _ (-(a * mkRat k 1)) (L + 2) _ h3 (by omega)).mono ?_
        rintro e w7 ⟨t4,rfl,h4,b7⟩
        go_wp2_with fail
        replace hu := hu.below b7
        replace hv := hv.below b7
        replace h1 := h1.below b7
        replace h2 := h2.below b7
        replace h3 := h3.below b7
        replace VA := VA.below b7
        replace VB := VB.below b7
        replace VR := VR.below b7
        replace VX := VX.below b7
        replace BB := BB.trans (b7.mono BB.size)
        clear b7
        refine hK.out _ _ ?_ (fun hH5 => ?_)
        ·exact ⟨VA.1,VA.2.1,VA.2.2.1⟩
        clear hK K hH4
        (try simp only [Act.put,xL4,xL5,xL6])
        refine xR [6] (h := ?_)
        refine xN (h := fun K hK => ?_)
        go_simp
        refine (rminus_any _ _ _ h4).mono ?_
        rintro e w8 ⟨t5,rfl,JX,b8⟩
        obtain ⟨px,ax,nx,cx,rfl⟩ := JX.open
        go_wp2_with fail
        replace hu := hu.below b8
        replace hv := hv.below b8
        replace h1 := h1.below b8
        replace h2 := h2.below b8
        replace h3 := h3.below b8
        replace h4 := h4.below b8
        replace VA := VA.below b8
        replace VB := VB.below b8
        replace VR := VR.below b8
        replace VX := VX.below b8
        replace BB := BB.trans (b8.mono BB.size)
        clear b8
        refine hK.out _ _ ?_ (fun hH6 => ?_)
        ·exact ⟨VA.1,VA.2.1,VA.2.2.1⟩
        clear hK K hH5
        (try simp only [Act.put,xL4,xL5,xL6])
        refine xR [8] (h := ?_)
        refine xN (h := fun K hK => ?_)
        have hKp := VX.keepJ (.bool px) (.slice ax nx cx)
        have VA_n := VA.other2 (R := R6) (by omega) (.bool px) (.slice ax nx cx)
        have VB_n := VB.other2 (R := R6) (by omega) (.bool px) (.slice ax nx cx)
        have VR_n := VR.other2 (R := R6) (by omega) (.bool px) (.slice ax nx cx)
        have VX_n := VX.same (.bool px) (.slice ax nx cx)
        have hu_n := hu.keep hKp
        have hv_n := hv.keep hKp
        have h1_n := h1.keep hKp
        have h2_n := h2.keep hKp
        have h3_n := h3.keep hKp
        have h4_n := h4.keep hKp
        have JX_n := JX.keep hKp
        have BB_n := below_store2 (R := R6) BB (by omega) (.bool px) (.slice ax nx cx)
        clear hKp
        obtain ⟨VX_0,VX_1,VX_2,VX_3⟩ := id VX
        go_simp
        clear VX_0 VX_1 VX_2 VX_3
        clear BB hu hv h1 h2 h3 h4 JX VA VB VR VX
        generalize (w8.setCell ⟨R6,0,none⟩ (.bool px)).setCell ⟨R6,1,none⟩ (.slice ax nx cx) = W7 at *
        have BB := BB_n
        have hu := hu_n
        have hv := hv_n
        have h1 := h1_n
        have h2 := h2_n
        have h3 := h3_n
        have h4 := h4_n
        have JX := JX_n
        have VA := VA_n
        have VB := VB_n
        have VR := VR_n
        have VX := VX_n
        clear BB_n hu_n hv_n h1_n h2_n h3_n h4_n JX_n VA_n VB_n VR_n VX_n
        refine hK.out _ _ ?_ (fun hH7 => ?_)
        ·exact ⟨VA.1,VA.2.1,VA.2.2.1⟩
        clear hK K hH6
        (try simp only [Act.put,xL4,xL5,xL6])
        refine wpAnyH_done (by kernel_rfl) ?_ _
        clear hH7
        go_wp2_with fail
        go_meet
        exact ⟨R6,px,ax,nx,cx,rfl,by omega,VX,JX,BB⟩
       exact AllReadyH.nil
      refine xC (h := fun K hK => ?_) (hs := ?_)
      ·
       go_simp
       have hZ8 : wr.heap.size ≤ w2.heap.size := BB.size
       have hN8VA : w.heap.size ≠ w2.heap.size := Nat.ne_of_lt VA.lt
       have hN8VB : w.heap.size + 1 ≠ w2.heap.size := Nat.ne_of_lt VB.lt
       have hN8VR : w.heap.size + 1 + 1 ≠ w2.heap.size := Nat.ne_of_lt VR.lt
       obtain ⟨W8,hW8,hS8,hL8,VX⟩ := V2.lay w2 36 (.bool false) (.slice none 0 0)
       replace hu := hu.below hL8
       replace hv := hv.below hL8
       replace h1 := h1.below hL8
       replace h2 := h2.below hL8
       replace VA := VA.below hL8
       replace VB := VB.below hL8
       replace VR := VR.below hL8
       replace BB := BB.trans (hL8.mono BB.size)
       clear hL8
       rw [← hW8]
       generalize w2.heap.size = R8 at *
       clear hW8 hS8
       refine hK.out _ _ ?_ (fun hH3 => ?_)
       ·exact ⟨VA.1,VA.2.1,VA.2.2.1⟩
       clear hK K hH2
       (try simp only [Act.put,xL4,xL5,xL6])
       refine xR [4] (h := ?_)
       refine xN (h := fun K hK => ?_)
       go_simp
       refine (jminus_at _ (a * mkRat k 1) (L + 2) _ h2 (by omega)).mono ?_
       rintro e w9 ⟨t3,rfl,h3,b9⟩
       go_wp2_with fail
       replace hu := hu.below b9
       replace hv := hv.below b9
       replace h1 := h1.below b9
       replace h2 := h2.below b9
       replace VA := VA.below b9
       replace VB := VB.below b9
       replace VR := VR.below b9
       replace VX := VX.below b9
       replace BB := BB.trans (b9.mono BB.size)
       clear b9
       refine hK.out _ _ ?_ (fun hH4 => ?_)
       ·exact ⟨VA.1,VA.2.1,VA.2.2.1⟩
       clear hK K hH3
       (try simp only [Act.put,xL4,xL5,xL6])
       refine xR [5] (h := ?_)
       refine xN (h := fun K hK => ?_)
       go_simp
       refine (jfloor_at _ (-(a * mkRat k 1)) (L + 2) _ h3 (by omega)).mono ?_
       rintro e w10 ⟨t4,rfl,h4,b10⟩
       go_wp2_with fail
       replace hu := hu.below b10
       replace hv := hv.below b10
       replace h1 := h1.below b10
       replace h2 := h2.below b10
       replace h3 := h3.below b10
       replace VA := VA.below b10
       replace VB := VB.below b10
       replace VR := VR.below b10
       replace VX := VX.below b10
       replace BB := BB.trans (b10.mono BB.size)
       clear b10
       refine hK.out _ _ ?_ (fun hH5 => ?_)
       ·exact ⟨VA.1,VA.2.1,VA.2.2.1⟩
       clear hK K hH4
       (try simp only [Act.put,xL4,xL5,xL6])
       refine xR [6] (h := ?_)
       refine xN (h := fun K hK => ?_)
       go_simp
       refine (rminus_any _ _ _ h4).mono ?_
       rintro e w11 ⟨t5,rfl,JX,b11⟩
       obtain ⟨px,ax,nx,cx,rfl⟩ := JX.open
       go_wp2_with fail
       replace hu := hu.below b11
       replace hv := hv.below b11
       replace h1 := h1.below b11
       replace h2 := h2.below b11
       replace h3 := h3.below b11
       replace h4 := h4.below b11
       replace VA := VA.below b11
       replace VB := VB.below b11
       replace VR := VR.below b11
       replace VX := VX.below b11
       replace BB := BB.trans (b11.mono BB.size)
       clear b11
       refine hK.out _ _ ?_ (fun hH6 => ?_)
       ·exact ⟨VA.1,VA.2.1,VA.2.2.1⟩
       clear hK K hH5
       (try simp only [Act.put,xL4,xL5,xL6])
       refine xR [8] (h := ?_)
       refine xN (h := fun K hK => ?_)
       have hKp := VX.keepJ (.bool px) (.slice ax nx cx)
       have VA_n := VA.other2 (R := R8) (by omega) (.bool px) (.slice ax nx cx)
       have VB_n := VB.other2 (R := R8) (by omega) (.bool px) (.slice ax nx cx)
       have VR_n := VR.other2 (R := R8) (by omega) (.bool px) (.slice ax nx cx)
       have VX_n := VX.same (.bool px) (.slice ax nx cx)
       have hu_n := hu.keep hKp
       have hv_n := hv.keep hKp
       have h1_n := h1.keep hKp
       have h2_n := h2.keep hKp
       have h3_n := h3.keep hKp
       have h4_n := h4.keep hKp
       have JX_n := JX.keep hKp
       have BB_n := below_store2 (R := R8) BB (by omega) (.bool px) (.slice ax nx cx)
       clear hKp
       obtain ⟨VX_0,VX_1,VX_2,VX_3⟩ := id VX
       go_simp
       clear VX_0 VX_1 VX_2 VX_3
       clear BB hu hv h1 h2 h3 h4 JX VA VB VR VX
       generalize (w11.setCell ⟨R8,0,none⟩ (.bool px)).setCell ⟨R8,1,none⟩ (.slice ax nx cx) = W9 at *
       have BB := BB_n
       have hu := hu_n
       have hv := hv_n
       have h1 := h1_n
       have h2 := h2_n
       have h3 := h3_n
       have h4 := h4_n
       have JX := JX_n
       have VA := VA_n
       have VB := VB_n
       have VR := VR_n
       have VX := VX_n
       clear BB_n hu_n hv_n h1_n h2_n h3_n h4_n JX_n VA_n VB_n VR_n VX_n
       refine hK.out _ _ ?_ (fun hH7 => ?_)
       ·exact ⟨VA.1,VA.2.1,VA.2.2.1⟩
       clear hK K hH6
       (try simp only [Act.put,xL4,xL5,xL6])
       refine wpAnyH_done (by kernel_rfl) ?_ _
       clear hH7
       go_wp2_with fail
       go_meet
       exact ⟨R8,px,ax,nx,cx,rfl,by omega,VX,JX,BB⟩
      exact AllReadyH.nil
     refine xC (h := fun K hK => ?_) (hs := ?_)
     ·
      go_simp
      have hZ10 : wr.heap.size ≤ w1.heap.size := BB.size
      have hN10VA : w.heap.size ≠ w1.heap.size := Nat.ne_of_lt VA.lt
      have hN10VB : w.heap.size + 1 ≠ w1.heap.size := Nat.ne_of_lt VB.lt
      have hN10VR : w.heap.size + 1 + 1 ≠ w1.heap.size := Nat.ne_of_lt VR.lt
      obtain ⟨W10,hW10,hS10,hL10,VX⟩ := V2.lay w1 36 (.bool false) (.slice none 0 0)
      replace hu := hu.below hL10
      replace hv := hv.below hL10
      replace h1 := h1.below hL10
      replace VA := VA.below hL10
      replace VB := VB.below hL10
      replace VR := VR.below hL10
      replace BB := BB.trans (hL10.mono BB.size)
      clear hL10
      rw [← hW10]
      generalize w1.heap.size = R10 at *
      clear hW10 hS10
      refine hK.out _ _ ?_ (fun hH2 => ?_)
      ·exact ⟨VA.1,VA.2.1,VA.2.2.1⟩
      clear hK K hH1
      (try simp only [Act.put,xL4,xL5,xL6])
      refine xR [3] (h := ?_)
      refine xN (h := fun K hK => ?_)
      go_simp
      refine (jtimes_at _ _ a (mkRat k 1) L 2 _ hu h1 (by omega)).mono ?_
      rintro e w12 ⟨t2,rfl,h2,b12⟩
      go_wp2_with fail
      replace hu := hu.below b12
      replace hv := hv.below b12
      replace h1 := h1.below b12
      replace VA := VA.below b12
      replace VB := VB.below b12
      replace VR := VR.below b12
      replace VX := VX.below b12
      replace BB := BB.trans (b12.mono BB.size)
      clear b12
      refine hK.out _ _ ?_ (fun hH3 => ?_)
      ·exact ⟨VA.1,VA.2.1,VA.2.2.1⟩
      clear hK K hH2
      (try simp only [Act.put,xL4,xL5,xL6])
      refine xR [4] (h := ?_)
      refine xN (h := fun K hK => ?_)
      go_simp
      refine (jminus_at _ (a * mkRat k 1) (L + 2) _ h2 (by omega)).mono ?_
      rintro e w13 ⟨t3,rfl,h3,b13⟩
      go_wp2_with fail
      replace hu := hu.below b13
      replace hv := hv.below b13
      replace h1 := h1.below b13
      replace h2 := h2.below b13
      replace VA := VA.below b13
      replace VB := VB.below b13
      replace VR := VR.below b13
      replace VX := VX.below b13
      replace BB := BB.trans (b13.mono BB.size)
      clear b13
      refine hK.out _ _ ?_ (fun hH4 => ?_)
      ·exact ⟨VA.1,VA.2.1,VA.2.2.1⟩
      clear hK K hH3
      (try simp only [Act.put,xL4,xL5,xL6])
      refine xR [5] (h := ?_)
      refine xN (h := fun K hK => ?_)
      go_simp
      refine (jfloor_at _ (-(a * mkRat k 1)) (L + 2) _ h3 (by omega)).mono ?_
      rintro e w14 ⟨t4,rfl,h4,b14⟩
      go_wp2_with fail
      replace hu := hu.below b14
      replace hv := hv.below b14
      replace h1 := h1.below b14
      replace h2 := h2.below b14
      replace h3 := h3.below b14
      replace VA := VA.below b14
      replace VB := VB.below b14
      replace VR := VR.below b14
      replace VX := VX.below b14
      replace BB := BB.trans (b14.mono BB.size)
      clear b14
      refine hK.out _ _ ?_ (fun hH5 => ?_)
      ·exact ⟨VA.1,VA.2.1,VA.2.2.1⟩
      clear hK K hH4
      (try simp only [Act.put,xL4,xL5,xL6])
      refine xR [6] (h := ?_)
      refine xN (h := fun K hK => ?_)
      go_simp
      refine (rminus_any _ _ _ h4).mono ?_
      rintro e w15 ⟨t5,rfl,JX,b15⟩
      obtain ⟨px,ax,nx,cx,rfl⟩ := JX.open
      go_wp2_with fail
      replace hu := hu.below b15
      replace hv := hv.below b15
      replace h1 := h1.below b15
      replace h2 := h2.below b15
      replace h3 := h3.below b15
      replace h4 := h4.below b15
      replace VA := VA.below b15
      replace VB := VB.below b15
      replace VR := VR.below b15
      replace VX := VX.below b15
      replace BB := BB.trans (b15.mono BB.size)
      clear b15
      refine hK.out _ _ ?_ (fun hH6 => ?_)
      ·exact ⟨VA.1,VA.2.1,VA.2.2.1⟩
      clear hK K hH5
      (try simp only [Act.put,xL4,xL5,xL6])
      refine xR [8] (h := ?_)
      refine xN (h := fun K hK => ?_)
      have hKp := VX.keepJ (.bool px) (.slice ax nx cx)
      have VA_n := VA.other2 (R := R10) (by omega) (.bool px) (.slice ax nx cx)
      have VB_n := VB.other2 (R := R10) (by omega) (.bool px) (.slice ax nx cx)
      have VR_n := VR.other2 (R := R10) (by omega) (.bool px) (.slice ax nx cx)
      have VX_n := VX.same (.bool px) (.slice ax nx cx)
      have hu_n := hu.keep hKp
      have hv_n := hv.keep hKp
      have h1_n := h1.keep hKp
      have h2_n := h2.keep hKp
      have h3_n := h3.keep hKp
      have h4_n := h4.keep hKp
      have JX_n := JX.keep hKp
      have BB_n := below_store2 (R := R10) BB (by omega) (.bool px) (.slice ax nx cx)
      clear hKp
      obtain ⟨VX_0,VX_1,VX_2,VX_3⟩ := id VX
      go_simp
      clear VX_0 VX_1 VX_2 VX_3
      clear BB hu hv h1 h2 h3 h4 JX VA VB VR VX
      generalize (w15.setCell ⟨R10,0,none⟩ (.bool px)).setCell ⟨R10,1,none⟩ (.slice ax nx cx) = W11 at *
      have BB := BB_n
      have hu := hu_n
      have hv := hv_n
      have h1 := h1_n
      have h2 := h2_n
      have h3 := h3_n
      have h4 := h4_n
      have JX := JX_n
      have VA := VA_n
      have VB := VB_n
      have VR := VR_n
      have VX := VX_n
      clear BB_n hu_n hv_n h1_n h2_n h3_n h4_n JX_n VA_n VB_n VR_n VX_n
      refine hK.out _ _ ?_ (fun hH7 => ?_)
      ·exact ⟨VA.1,VA.2.1,VA.2.2.1⟩
      clear hK K hH6
      (try simp only [Act.put,xL4,xL5,xL6])
      refine wpAnyH_done (by kernel_rfl) ?_ _
      clear hH7
      go_wp2_with fail
      go_meet
      exact ⟨R10,px,ax,nx,cx,rfl,by omega,VX,JX,BB⟩
     exact AllReadyH.nil
    refine xC (h := fun K hK => ?_) (hs := ?_)
    ·
     go_simp
     have hZ12 : wr.heap.size ≤ W1.heap.size := BB.size
     have hN12VA : w.heap.size ≠ W1.heap.size := Nat.ne_of_lt VA.lt
     have hN12VB : w.heap.size + 1 ≠ W1.heap.size := Nat.ne_of_lt VB.lt
     have hN12VR : w.heap.size + 1 + 1 ≠ W1.heap.size := Nat.ne_of_lt VR.lt
     obtain ⟨W12,hW12,hS12,hL12,VX⟩ := V2.lay W1 36 (.bool false) (.slice none 0 0)
     replace hu := hu.below hL12
     replace hv := hv.below hL12
     replace VA := VA.below hL12
     replace VB := VB.below hL12
     replace VR := VR.below hL12
     replace BB := BB.trans (hL12.mono BB.size)
     clear hL12
     rw [← hW12]
     generalize W1.heap.size = R12 at *
     clear hW12 hS12
     refine hK.out _ _ ?_ (fun hH1 => ?_)
     ·exact ⟨VA.1,VA.2.1,VA.2.2.1⟩
     clear hK K hHeld
     (try simp only [Act.put,xL4,xL5,xL6])
     refine xR [2] (h := ?_)
     refine xN (h := fun K hK => ?_)
     go_simp
     refine (jsmall_at (k : Int) 1 _ (by omega) (by omega) (by omega) (by omega)).mono ?_
     rintro e w16 ⟨t1,rfl,h1,b16⟩
     go_wp2_with fail
     replace hu := hu.below b16
     replace hv := hv.below b16
     replace VA := VA.below b16
     replace VB := VB.below b16
     replace VR := VR.below b16
     replace VX := VX.below b16
     replace BB := BB.trans (b16.mono BB.size)
     clear b16
     refine hK.out _ _ ?_ (fun hH2 => ?_)
     ·exact ⟨VA.1,VA.2.1,VA.2.2.1⟩
     clear hK K hH1
     (try simp only [Act.put,xL4,xL5,xL6])
     refine xR [3] (h := ?_)
     refine xN (h := fun K hK => ?_)
     go_simp
     refine (jtimes_at _ _ a (mkRat k 1) L 2 _ hu h1 (by omega)).mono ?_
     rintro e w17 ⟨t2,rfl,h2,b17⟩
     go_wp2_with fail
     replace hu := hu.below b17
     replace hv := hv.below b17
     replace h1 := h1.below b17
     replace VA := VA.below b17
     replace VB := VB.below b17
     replace VR := VR.below b17
     replace VX := VX.below b17
     replace BB := BB.trans (b17.mono BB.size)
     clear b17
     refine hK.out _ _ ?_ (fun hH3 => ?_)
     ·exact ⟨VA.1,VA.2.1,VA.2.2.1⟩
     clear hK K hH2
     (try simp only [Act.put,xL4,xL5,xL6])
     refine xR [4] (h := ?_)
     refine xN (h := fun K hK => ?_)
     go_simp
     refine (jminus_at _ (a * mkRat k 1) (L + 2) _ h2 (by omega)).mono ?_
     rintro e w18 ⟨t3,rfl,h3,b18⟩
     go_wp2_with fail
     replace hu := hu.below b18
     replace hv := hv.below b18
     replace h1 := h1.below b18
     replace h2 := h2.below b18
     replace VA := VA.below b18
     replace VB := VB.below b18
     replace VR := VR.below b18
     replace VX := VX.below b18
     replace BB := BB.trans (b18.mono BB.size)
     clear b18
     refine hK.out _ _ ?_ (fun hH4 => ?_)
     ·exact ⟨VA.1,VA.2.1,VA.2.2.1⟩
     clear hK K hH3
     (try simp only [Act.put,xL4,xL5,xL6])
     refine xR [5] (h := ?_)
     refine xN (h := fun K hK => ?_)
     go_simp
     refine (jfloor_at _ (-(a * mkRat k 1)) (L + 2) _ h3 (by omega)).mono ?_
     rintro e w19 ⟨t4,rfl,h4,b19⟩
     go_wp2_with fail
     replace hu := hu.below b19
     replace hv := hv.below b19
     replace h1 := h1.below b19
     replace h2 := h2.below b19
     replace h3 := h3.below b19
     replace VA := VA.below b19
     replace VB := VB.below b19
     replace VR := VR.below b19
     replace VX := VX.below b19
     replace BB := BB.trans (b19.mono BB.size)
     clear b19
     refine hK.out _ _ ?_ (fun hH5 => ?_)
     ·exact ⟨VA.1,VA.2.1,VA.2.2.1⟩
     clear hK K hH4
     (try simp only [Act.put,xL4,xL5,xL6])
     refine xR [6] (h := ?_)
     refine xN (h := fun K hK => ?_)
     go_simp
     refine (rminus_any _ _ _ h4).mono ?_
     rintro e w20 ⟨t5,rfl,JX,b20⟩
     obtain ⟨px,ax,nx,cx,rfl⟩ := JX.open
     go_wp2_with fail
     replace hu := hu.below b20
     replace hv := hv.below b20
     replace h1 := h1.below b20
     replace h2 := h2.below b20
     replace h3 := h3.below b20
     replace h4 := h4.below b20
     replace VA := VA.below b20
     replace VB := VB.below b20
     replace VR := VR.below b20
     replace VX := VX.below b20
     replace BB := BB.trans (b20.mono BB.size)
     clear b20
     refine hK.out _ _ ?_ (fun hH6 => ?_)
     ·exact ⟨VA.1,VA.2.1,VA.2.2.1⟩
     clear hK K hH5
     (try simp only [Act.put,xL4,xL5,xL6])
     refine xR [8] (h := ?_)
     refine xN (h := fun K hK => ?_)
     have hKp := VX.keepJ (.bool px) (.slice ax nx cx)
     have VA_n := VA.other2 (R := R12) (by omega) (.bool px) (.slice ax nx cx)
     have VB_n := VB.other2 (R := R12) (by omega) (.bool px) (.slice ax nx cx)
     have VR_n := VR.other2 (R := R12) (by omega) (.bool px) (.slice ax nx cx)
     have VX_n := VX.same (.bool px) (.slice ax nx cx)
     have hu_n := hu.keep hKp
     have hv_n := hv.keep hKp
     have h1_n := h1.keep hKp
     have h2_n := h2.keep hKp
     have h3_n := h3.keep hKp
     have h4_n := h4.keep hKp
     have JX_n := JX.keep hKp
     have BB_n := below_store2 (R := R12) BB (by omega) (.bool px) (.slice ax nx cx)
     clear hKp
     obtain ⟨VX_0,VX_1,VX_2,VX_3⟩ := id VX
     go_simp
     clear VX_0 VX_1 VX_2 VX_3
     clear BB hu hv h1 h2 h3 h4 JX VA VB VR VX
     generalize (w20.setCell ⟨R12,0,none⟩ (.bool px)).setCell ⟨R12,1,none⟩ (.slice ax nx cx) = W13 at *
     have BB := BB_n
     have hu := hu_n
     have hv := hv_n
     have h1 := h1_n
     have h2 := h2_n
     have h3 := h3_n
     have h4 := h4_n
     have JX := JX_n
     have VA := VA_n
     have VB := VB_n
     have VR := VR_n
     have VX := VX_n
     clear BB_n hu_n hv_n h1_n h2_n h3_n h4_n JX_n VA_n VB_n VR_n VX_n
     refine hK.out _ _ ?_ (fun hH7 => ?_)
     ·exact ⟨VA.1,VA.2.1,VA.2.2.1⟩
     clear hK K hH6
     (try simp only [Act.put,xL4,xL5,xL6])
     refine wpAnyH_done (by kernel_rfl) ?_ _
     clear hH7
     go_wp2_with fail
     go_meet
     exact ⟨R12,px,ax,nx,cx,rfl,by omega,VX,JX,BB⟩
    exact AllReadyH.nil
   case rest =>
    obtain ⟨Ry,py,ay,ny,cy,rfl,hRy,Vy,Jy,hbW⟩ := hcut
    rename World => Wcy
    have hlyVA : w.heap.size < wr.heap.size := VA.lt
    have hlyVB : w.heap.size + 1 < wr.heap.size := VB.lt
    have hlyVR : w.heap.size + 1 + 1 < wr.heap.size := VR.lt
    replace hu := hu.below hbW
    replace hv := hv.below hbW
    replace VA := VA.below hbW
    replace VB := VB.below hbW
    replace VR := VR.below hbW
    replace BB := BB.trans (hbW.mono BB.size)
    clear hbW
    go_wp2
    go_cut [10] from 24 to 28 (fun sx wx => ∃ (RX : Nat) (px : Bool) (ax : Option Addr) (nx cx : Nat),sx = .pointer (some ⟨RX,0,none⟩) ∧ Wcy.heap.size ≤ RX ∧ V2 wx RX (.bool px) (.slice ax nx cx) ∧ RepJ wx (.agg #[.bool px,.slice ax nx cx]) ((b * mkRat k 1).floor) ∧ Below Wcy.heap.size Wcy wx)
    case first =>
     clear BB
     have BB : Below Wcy.heap.size Wcy Wcy := Below.refl _ _
     have hDr : Below Wcy.heap.size Wcy Wcy.drew := (Below.refl _ _).drew
     replace hu := hu.below hDr
     replace hv := hv.below hDr
     replace Jy := Jy.below hDr
     replace VA := VA.below hDr
     replace VB := VB.below hDr
     replace VR := VR.below hDr
     replace Vy := Vy.below hDr
     replace BB := BB.trans (hDr.mono BB.size)
     clear hDr
     refine wp_region_held_drew (S := (fun w' => w'.cell? ⟨w.heap.size + 1,0,none⟩ = some (.bool p2) ∧ w'.cell? ⟨w.heap.size + 1,1,none⟩ = some (.slice ao2 n2 c2) ∧ w'.cell? ⟨w.heap.size + 1,2,none⟩ = some (.slice bo2 m2 e2))) (by kernel_rfl) ?_ (fun hHeld => ?_)
     ·exact ⟨VB.1,VB.2.1,VB.2.2.1⟩
     generalize Wcy.drew = W14 at *
     refine xT 0 (v := ?_) (hy := Or.inl ⟨by rfl,?_⟩) (h := ?_)
     rotate_left
     ·(intro w hSw; (try dsimp only at hSw); go_simp; (try with_reducible rfl))
     (try simp only [Act.put,xL4,xL5,xL6])
     refine xT 1 (v := ?_) (hy := Or.inl ⟨by rfl,?_⟩) (h := ?_)
     rotate_left
     ·(intro w hSw; (try dsimp only at hSw); go_simp; (try with_reducible rfl))
     (try simp only [Act.put,xL4,xL5,xL6])
     refine xR [2,5] (h := ?_)
     refine xC (h := fun K hK => ?_) (hs := ?_)
     ·
      go_simp
      refine (jsmall_at (k : Int) 1 _ (by omega) (by omega) (by omega) (by omega)).mono ?_
      rintro e w21 ⟨t1,rfl,h1,b21⟩
      go_wp2_with fail
      replace hu := hu.below b21
      replace hv := hv.below b21
      replace Jy := Jy.below b21
      replace VA := VA.below b21
      replace VB := VB.below b21
      replace VR := VR.below b21
      replace Vy := Vy.below b21
      replace BB := BB.trans (b21.mono BB.size)
      clear b21
      refine hK.out _ _ ?_ (fun hH1 => ?_)
      ·exact ⟨VB.1,VB.2.1,VB.2.2.1⟩
      clear hK K hHeld
      (try simp only [Act.put,xL4,xL5,xL6])
      refine xR [3,5] (h := ?_)
      refine xC (h := fun K hK => ?_) (hs := ?_)
      ·
       go_simp
       refine (jtimes_at _ _ b (mkRat k 1) L 2 _ hv h1 (by omega)).mono ?_
       rintro e w22 ⟨t2,rfl,h2,b22⟩
       go_wp2_with fail
       replace hu := hu.below b22
       replace hv := hv.below b22
       replace Jy := Jy.below b22
       replace h1 := h1.below b22
       replace VA := VA.below b22
       replace VB := VB.below b22
       replace VR := VR.below b22
       replace Vy := Vy.below b22
       replace BB := BB.trans (b22.mono BB.size)
       clear b22
       refine hK.out _ _ ?_ (fun hH2 => ?_)
       ·exact ⟨VB.1,VB.2.1,VB.2.2.1⟩
       clear hK K hH1
       (try simp only [Act.put,xL4,xL5,xL6])
       refine xR [4,5] (h := ?_)
       refine xC (h := fun K hK => ?_) (hs := ?_)
       ·
        go_simp
        refine (jfloor_at _ (b * mkRat k 1) (L + 2) _ h2 (by omega)).mono ?_
        rintro e w23 ⟨t4,rfl,JX,b23⟩
        obtain ⟨px,ax,nx,cx,rfl⟩ := JX.open
        go_wp2_with fail
        replace hu := hu.below b23
        replace hv := hv.below b23
        replace Jy := Jy.below b23
        replace h1 := h1.below b23
        replace h2 := h2.below b23
        replace VA := VA.below b23
        replace VB := VB.below b23
        replace VR := VR.below b23
        replace Vy := Vy.below b23
        replace BB := BB.trans (b23.mono BB.size)
        clear b23
        refine hK.out _ _ ?_ (fun hH3 => ?_)
        ·exact ⟨VB.1,VB.2.1,VB.2.2.1⟩
        clear hK K hH2
        (try simp only [Act.put,xL4,xL5,xL6])
        refine xR [5] (h := ?_)
        refine xN (h := fun K hK => ?_)
        go_simp
        have hZ15 : Wcy.heap.size ≤ w23.heap.size := BB.size
        have hN15VA : w.heap.size ≠ w23.heap.size := Nat.ne_of_lt VA.lt
        have hN15VB : w.heap.size + 1 ≠ w23.heap.size := Nat.ne_of_lt VB.lt
        have hN15VR : w.heap.size + 1 + 1 ≠ w23.heap.size := Nat.ne_of_lt VR.lt
        have hN15Vy : Ry ≠ w23.heap.size := Nat.ne_of_lt Vy.lt
        obtain ⟨W15,hW15,hS15,hL15,VX⟩ := V2.lay w23 36 (.bool false) (.slice none 0 0)
        replace hu := hu.below hL15
        replace hv := hv.below hL15
        replace Jy := Jy.below hL15
        replace h1 := h1.below hL15
        replace h2 := h2.below hL15
        replace JX := JX.below hL15
        replace VA := VA.below hL15
        replace VB := VB.below hL15
        replace VR := VR.below hL15
        replace Vy := Vy.below hL15
        replace BB := BB.trans (hL15.mono BB.size)
        clear hL15
        rw [← hW15]
        generalize w23.heap.size = R15 at *
        clear hW15 hS15
        refine hK.out _ _ ?_ (fun hH4 => ?_)
        ·exact ⟨VB.1,VB.2.1,VB.2.2.1⟩
        clear hK K hH3
        (try simp only [Act.put,xL4,xL5,xL6])
        refine xR [6] (h := ?_)
        refine xN (h := fun K hK => ?_)
        have hKp := VX.keepJ (.bool px) (.slice ax nx cx)
        have VA_n := VA.other2 (R := R15) (by omega) (.bool px) (.slice ax nx cx)
        have VB_n := VB.other2 (R := R15) (by omega) (.bool px) (.slice ax nx cx)
        have VR_n := VR.other2 (R := R15) (by omega) (.bool px) (.slice ax nx cx)
        have Vy_n := Vy.other (R := R15) (by omega) (.bool px) (.slice ax nx cx)
        have VX_n := VX.same (.bool px) (.slice ax nx cx)
        have hu_n := hu.keep hKp
        have hv_n := hv.keep hKp
        have Jy_n := Jy.keep hKp
        have h1_n := h1.keep hKp
        have h2_n := h2.keep hKp
        have JX_n := JX.keep hKp
        have BB_n := below_store2 (R := R15) BB (by omega) (.bool px) (.slice ax nx cx)
        clear hKp
        obtain ⟨VX_0,VX_1,VX_2,VX_3⟩ := id VX
        go_simp
        clear VX_0 VX_1 VX_2 VX_3
        clear BB hu hv Jy h1 h2 JX VA VB VR Vy VX
        generalize (W15.setCell ⟨R15,0,none⟩ (.bool px)).setCell ⟨R15,1,none⟩ (.slice ax nx cx) = W16 at *
        have BB := BB_n
        have hu := hu_n
        have hv := hv_n
        have Jy := Jy_n
        have h1 := h1_n
        have h2 := h2_n
        have JX := JX_n
        have VA := VA_n
        have VB := VB_n
        have VR := VR_n
        have Vy := Vy_n
        have VX := VX_n
        clear BB_n hu_n hv_n Jy_n h1_n h2_n JX_n VA_n VB_n VR_n Vy_n VX_n
        refine hK.out _ _ ?_ (fun hH5 => ?_)
        ·exact ⟨VB.1,VB.2.1,VB.2.2.1⟩
        clear hK K hH4
        (try simp only [Act.put,xL4,xL5,xL6])
        refine wpAnyH_done (by kernel_rfl) ?_ _
        clear hH5
        go_wp2_with fail
        go_meet
        exact ⟨R15,px,ax,nx,cx,rfl,by omega,VX,JX,BB⟩
       refine xC (h := fun K hK => ?_) (hs := ?_)
       ·
        go_simp
        have hZ17 : Wcy.heap.size ≤ w22.heap.size := BB.size
        have hN17VA : w.heap.size ≠ w22.heap.size := Nat.ne_of_lt VA.lt
        have hN17VB : w.heap.size + 1 ≠ w22.heap.size := Nat.ne_of_lt VB.lt
        have hN17VR : w.heap.size + 1 + 1 ≠ w22.heap.size := Nat.ne_of_lt VR.lt
        have hN17Vy : Ry ≠ w22.heap.size := Nat.ne_of_lt Vy.lt
        obtain ⟨W17,hW17,hS17,hL17,VX⟩ := V2.lay w22 36 (.bool false) (.slice none 0 0)
        replace hu := hu.below hL17
        replace hv := hv.below hL17
        replace Jy := Jy.below hL17
        replace h1 := h1.below hL17
        replace h2 := h2.below hL17
        replace VA := VA.below hL17
        replace VB := VB.below hL17
        replace VR := VR.below hL17
        replace Vy := Vy.below hL17
        replace BB := BB.trans (hL17.mono BB.size)
        clear hL17
        rw [← hW17]
        generalize w22.heap.size = R17 at *
        clear hW17 hS17
        refine hK.out _ _ ?_ (fun hH3 => ?_)
        ·exact ⟨VB.1,VB.2.1,VB.2.2.1⟩
        clear hK K hH2
        (try simp only [Act.put,xL4,xL5,xL6])
        refine xR [4] (h := ?_)
        refine xN (h := fun K hK => ?_)
        go_simp
        refine (jfloor_at _ (b * mkRat k 1) (L + 2) _ h2 (by omega)).mono ?_
        rintro e w24 ⟨t4,rfl,JX,b24⟩
        obtain ⟨px,ax,nx,cx,rfl⟩ := JX.open
        go_wp2_with fail
        replace hu := hu.below b24
        replace hv := hv.below b24
        replace Jy := Jy.below b24
        replace h1 := h1.below b24
        replace h2 := h2.below b24
        replace VA := VA.below b24
        replace VB := VB.below b24
        replace VR := VR.below b24
        replace Vy := Vy.below b24
        replace VX := VX.below b24
        replace BB := BB.trans (b24.mono BB.size)
        clear b24
        refine hK.out _ _ ?_ (fun hH4 => ?_)
        ·exact ⟨VB.1,VB.2.1,VB.2.2.1⟩
        clear hK K hH3
        (try simp only [Act.put,xL4,xL5,xL6])
        refine xR [6] (h := ?_)
        refine xN (h := fun K hK => ?_)
        have hKp := VX.keepJ (.bool px) (.slice ax nx cx)
        have VA_n := VA.other2 (R := R17) (by omega) (.bool px) (.slice ax nx cx)
        have VB_n := VB.other2 (R := R17) (by omega) (.bool px) (.slice ax nx cx)
        have VR_n := VR.other2 (R := R17) (by omega) (.bool px) (.slice ax nx cx)
        have Vy_n := Vy.other (R := R17) (by omega) (.bool px) (.slice ax nx cx)
        have VX_n := VX.same (.bool px) (.slice ax nx cx)
        have hu_n := hu.keep hKp
        have hv_n := hv.keep hKp
        have Jy_n := Jy.keep hKp
        have h1_n := h1.keep hKp
        have h2_n := h2.keep hKp
        have JX_n := JX.keep hKp
        have BB_n := below_store2 (R := R17) BB (by omega) (.bool px) (.slice ax nx cx)
        clear hKp
        obtain ⟨VX_0,VX_1,VX_2,VX_3⟩ := id VX
        go_simp
        clear VX_0 VX_1 VX_2 VX_3
        clear BB hu hv Jy h1 h2 JX VA VB VR Vy VX
        generalize (w24.setCell ⟨R17,0,none⟩ (.bool px)).setCell ⟨R17,1,none⟩ (.slice ax nx cx) = W18 at *
        have BB := BB_n
        have hu := hu_n
        have hv := hv_n
        have Jy := Jy_n
        have h1 := h1_n
        have h2 := h2_n
        have JX := JX_n
        have VA := VA_n
        have VB := VB_n
        have VR := VR_n
        have Vy := Vy_n
        have VX := VX_n
        clear BB_n hu_n hv_n Jy_n h1_n h2_n JX_n VA_n VB_n VR_n Vy_n VX_n
        refine hK.out _ _ ?_ (fun hH5 => ?_)
        ·exact ⟨VB.1,VB.2.1,VB.2.2.1⟩
        clear hK K hH4
        (try simp only [Act.put,xL4,xL5,xL6])
        refine wpAnyH_done (by kernel_rfl) ?_ _
        clear hH5
        go_wp2_with fail
        go_meet
        exact ⟨R17,px,ax,nx,cx,rfl,by omega,VX,JX,BB⟩
       exact AllReadyH.nil
      refine xC (h := fun K hK => ?_) (hs := ?_)
      ·
       go_simp
       have hZ19 : Wcy.heap.size ≤ w21.heap.size := BB.size
       have hN19VA : w.heap.size ≠ w21.heap.size := Nat.ne_of_lt VA.lt
       have hN19VB : w.heap.size + 1 ≠ w21.heap.size := Nat.ne_of_lt VB.lt
       have hN19VR : w.heap.size + 1 + 1 ≠ w21.heap.size := Nat.ne_of_lt VR.lt
       have hN19Vy : Ry ≠ w21.heap.size := Nat.ne_of_lt Vy.lt
       obtain ⟨W19,hW19,hS19,hL19,VX⟩ := V2.lay w21 36 (.bool false) (.slice none 0 0)
       replace hu := hu.below hL19
       replace hv := hv.below hL19
       replace Jy := Jy.below hL19
       replace h1 := h1.below hL19
       replace VA := VA.below hL19
       replace VB := VB.below hL19
       replace VR := VR.below hL19
       replace Vy := Vy.below hL19
       replace BB := BB.trans (hL19.mono BB.size)
       clear hL19
       rw [← hW19]
       generalize w21.heap.size = R19 at *
       clear hW19 hS19
       refine hK.out _ _ ?_ (fun hH2 => ?_)
       ·exact ⟨VB.1,VB.2.1,VB.2.2.1⟩
       clear hK K hH1
       (try simp only [Act.put,xL4,xL5,xL6])
       refine xR [3] (h := ?_)
       refine xN (h := fun K hK => ?_)
       go_simp
       refine (jtimes_at _ _ b (mkRat k 1) L 2 _ hv h1 (by omega)).mono ?_
       rintro e w25 ⟨t2,rfl,h2,b25⟩
       go_wp2_with fail
       replace hu := hu.below b25
       replace hv := hv.below b25
       replace Jy := Jy.below b25
       replace h1 := h1.below b25
       replace VA := VA.below b25
       replace VB := VB.below b25
       replace VR := VR.below b25
       replace Vy := Vy.below b25
       replace VX := VX.below b25
       replace BB := BB.trans (b25.mono BB.size)
       clear b25
       refine hK.out _ _ ?_ (fun hH3 => ?_)
       ·exact ⟨VB.1,VB.2.1,VB.2.2.1⟩
       clear hK K hH2
       (try simp only [Act.put,xL4,xL5,xL6])
       refine xR [4] (h := ?_)
       refine xN (h := fun K hK => ?_)
       go_simp
       refine (jfloor_at _ (b * mkRat k 1) (L + 2) _ h2 (by omega)).mono ?_
       rintro e w26 ⟨t4,rfl,JX,b26⟩
       obtain ⟨px,ax,nx,cx,rfl⟩ := JX.open
       go_wp2_with fail
       replace hu := hu.below b26
       replace hv := hv.below b26
       replace Jy := Jy.below b26
       replace h1 := h1.below b26
       replace h2 := h2.below b26
       replace VA := VA.below b26
       replace VB := VB.below b26
       replace VR := VR.below b26
       replace Vy := Vy.below b26
       replace VX := VX.below b26
       replace BB := BB.trans (b26.mono BB.size)
       clear b26
       refine hK.out _ _ ?_ (fun hH4 => ?_)
       ·exact ⟨VB.1,VB.2.1,VB.2.2.1⟩
       clear hK K hH3
       (try simp only [Act.put,xL4,xL5,xL6])
       refine xR [6] (h := ?_)
       refine xN (h := fun K hK => ?_)
       have hKp := VX.keepJ (.bool px) (.slice ax nx cx)
       have VA_n := VA.other2 (R := R19) (by omega) (.bool px) (.slice ax nx cx)
       have VB_n := VB.other2 (R := R19) (by omega) (.bool px) (.slice ax nx cx)
       have VR_n := VR.other2 (R := R19) (by omega) (.bool px) (.slice ax nx cx)
       have Vy_n := Vy.other (R := R19) (by omega) (.bool px) (.slice ax nx cx)
       have VX_n := VX.same (.bool px) (.slice ax nx cx)
       have hu_n := hu.keep hKp
       have hv_n := hv.keep hKp
       have Jy_n := Jy.keep hKp
       have h1_n := h1.keep hKp
       have h2_n := h2.keep hKp
       have JX_n := JX.keep hKp
       have BB_n := below_store2 (R := R19) BB (by omega) (.bool px) (.slice ax nx cx)
       clear hKp
       obtain ⟨VX_0,VX_1,VX_2,VX_3⟩ := id VX
       go_simp
       clear VX_0 VX_1 VX_2 VX_3
       clear BB hu hv Jy h1 h2 JX VA VB VR Vy VX
       generalize (w26.setCell ⟨R19,0,none⟩ (.bool px)).setCell ⟨R19,1,none⟩ (.slice ax nx cx) = W20 at *
       have BB := BB_n
       have hu := hu_n
       have hv := hv_n
       have Jy := Jy_n
       have h1 := h1_n
       have h2 := h2_n
       have JX := JX_n
       have VA := VA_n
       have VB := VB_n
       have VR := VR_n
       have Vy := Vy_n
       have VX := VX_n
       clear BB_n hu_n hv_n Jy_n h1_n h2_n JX_n VA_n VB_n VR_n Vy_n VX_n
       refine hK.out _ _ ?_ (fun hH5 => ?_)
       ·exact ⟨VB.1,VB.2.1,VB.2.2.1⟩
       clear hK K hH4
       (try simp only [Act.put,xL4,xL5,xL6])
       refine wpAnyH_done (by kernel_rfl) ?_ _
       clear hH5
       go_wp2_with fail
       go_meet
       exact ⟨R19,px,ax,nx,cx,rfl,by omega,VX,JX,BB⟩
      exact AllReadyH.nil
     refine xC (h := fun K hK => ?_) (hs := ?_)
     ·
      go_simp
      have hZ21 : Wcy.heap.size ≤ W14.heap.size := BB.size
      have hN21VA : w.heap.size ≠ W14.heap.size := Nat.ne_of_lt VA.lt
      have hN21VB : w.heap.size + 1 ≠ W14.heap.size := Nat.ne_of_lt VB.lt
      have hN21VR : w.heap.size + 1 + 1 ≠ W14.heap.size := Nat.ne_of_lt VR.lt
      have hN21Vy : Ry ≠ W14.heap.size := Nat.ne_of_lt Vy.lt
      obtain ⟨W21,hW21,hS21,hL21,VX⟩ := V2.lay W14 36 (.bool false) (.slice none 0 0)
      replace hu := hu.below hL21
      replace hv := hv.below hL21
      replace Jy := Jy.below hL21
      replace VA := VA.below hL21
      replace VB := VB.below hL21
      replace VR := VR.below hL21
      replace Vy := Vy.below hL21
      replace BB := BB.trans (hL21.mono BB.size)
      clear hL21
      rw [← hW21]
      generalize W14.heap.size = R21 at *
      clear hW21 hS21
      refine hK.out _ _ ?_ (fun hH1 => ?_)
      ·exact ⟨VB.1,VB.2.1,VB.2.2.1⟩
      clear hK K hHeld
      (try simp only [Act.put,xL4,xL5,xL6])
      refine xR [2] (h := ?_)
      refine xN (h := fun K hK => ?_)
      go_simp
      refine (jsmall_at (k : Int) 1 _ (by omega) (by omega) (by omega) (by omega)).mono ?_
      rintro e w27 ⟨t1,rfl,h1,b27⟩
      go_wp2_with fail
      replace hu := hu.below b27
      replace hv := hv.below b27
      replace Jy := Jy.below b27
      replace VA := VA.below b27
      replace VB := VB.below b27
      replace VR := VR.below b27
      replace Vy := Vy.below b27
      replace VX := VX.below b27
      replace BB := BB.trans (b27.mono BB.size)
      clear b27
      refine hK.out _ _ ?_ (fun hH2 => ?_)
      ·exact ⟨VB.1,VB.2.1,VB.2.2.1⟩
      clear hK K hH1
      (try simp only [Act.put,xL4,xL5,xL6])
      refine xR [3] (h := ?_)
      refine xN (h := fun K hK => ?_)
      go_simp
      refine (jtimes_at _ _ b (mkRat k 1) L 2 _ hv h1 (by omega)).mono ?_
      rintro e w28 ⟨t2,rfl,h2,b28⟩
      go_wp2_with fail
      replace hu := hu.below b28
      replace hv := hv.below b28
      replace Jy := Jy.below b28
      replace h1 := h1.below b28
      replace VA := VA.below b28
      replace VB := VB.below b28
      replace VR := VR.below b28
      replace Vy := Vy.below b28
      replace VX := VX.below b28
      replace BB := BB.trans (b28.mono BB.size)
      clear b28
      refine hK.out _ _ ?_ (fun hH3 => ?_)
      ·exact ⟨VB.1,VB.2.1,VB.2.2.1⟩
      clear hK K hH2
      (try simp only [Act.put,xL4,xL5,xL6])
      refine xR [4] (h := ?_)
      refine xN (h := fun K hK => ?_)
      go_simp
      refine (jfloor_at _ (b * mkRat k 1) (L + 2) _ h2 (by omega)).mono ?_
      rintro e w29 ⟨t4,rfl,JX,b29⟩
      obtain ⟨px,ax,nx,cx,rfl⟩ := JX.open
      go_wp2_with fail
      replace hu := hu.below b29
      replace hv := hv.below b29
      replace Jy := Jy.below b29
      replace h1 := h1.below b29
      replace h2 := h2.below b29
      replace VA := VA.below b29
      replace VB := VB.below b29
      replace VR := VR.below b29
      replace Vy := Vy.below b29
      replace VX := VX.below b29
      replace BB := BB.trans (b29.mono BB.size)
      clear b29
      refine hK.out _ _ ?_ (fun hH4 => ?_)
      ·exact ⟨VB.1,VB.2.1,VB.2.2.1⟩
      clear hK K hH3
      (try simp only [Act.put,xL4,xL5,xL6])
      refine xR [6] (h := ?_)
      refine xN (h := fun K hK => ?_)
      have hKp := VX.keepJ (.bool px) (.slice ax nx cx)
      have VA_n := VA.other2 (R := R21) (by omega) (.bool px) (.slice ax nx cx)
      have VB_n := VB.other2 (R := R21) (by omega) (.bool px) (.slice ax nx cx)
      have VR_n := VR.other2 (R := R21) (by omega) (.bool px) (.slice ax nx cx)
      have Vy_n := Vy.other (R := R21) (by omega) (.bool px) (.slice ax nx cx)
      have VX_n := VX.same (.bool px) (.slice ax nx cx)
      have hu_n := hu.keep hKp
      have hv_n := hv.keep hKp
      have Jy_n := Jy.keep hKp
      have h1_n := h1.keep hKp
      have h2_n := h2.keep hKp
      have JX_n := JX.keep hKp
      have BB_n := below_store2 (R := R21) BB (by omega) (.bool px) (.slice ax nx cx)
      clear hKp
      obtain ⟨VX_0,VX_1,VX_2,VX_3⟩ := id VX
      go_simp
      clear VX_0 VX_1 VX_2 VX_3
      clear BB hu hv Jy h1 h2 JX VA VB VR Vy VX
      generalize (w29.setCell ⟨R21,0,none⟩ (.bool px)).setCell ⟨R21,1,none⟩ (.slice ax nx cx) = W22 at *
      have BB := BB_n
      have hu := hu_n
      have hv := hv_n
      have Jy := Jy_n
      have h1 := h1_n
      have h2 := h2_n
      have JX := JX_n
      have VA := VA_n
      have VB := VB_n
      have VR := VR_n
      have Vy := Vy_n
      have VX := VX_n
      clear BB_n hu_n hv_n Jy_n h1_n h2_n JX_n VA_n VB_n VR_n Vy_n VX_n
      refine hK.out _ _ ?_ (fun hH5 => ?_)
      ·exact ⟨VB.1,VB.2.1,VB.2.2.1⟩
      clear hK K hH4
      (try simp only [Act.put,xL4,xL5,xL6])
      refine wpAnyH_done (by kernel_rfl) ?_ _
      clear hH5
      go_wp2_with fail
      go_meet
      exact ⟨R21,px,ax,nx,cx,rfl,by omega,VX,JX,BB⟩
     exact AllReadyH.nil
    case rest =>
     obtain ⟨Rz,pz,az,nz,cz,rfl,hRz,Vz,Jz,hbW⟩ := hcut
     rename World => Wcz
     have hlzVA : w.heap.size < Wcy.heap.size := VA.lt
     have hlzVB : w.heap.size + 1 < Wcy.heap.size := VB.lt
     have hlzVR : w.heap.size + 1 + 1 < Wcy.heap.size := VR.lt
     have hlzVy : Ry < Wcy.heap.size := Vy.lt
     replace hu := hu.below hbW
     replace hv := hv.below hbW
     replace Jy := Jy.below hbW
     replace VA := VA.below hbW
     replace VB := VB.below hbW
     replace VR := VR.below hbW
     replace Vy := Vy.below hbW
     replace BB := BB.trans (hbW.mono BB.size)
     clear hbW
     have HH : Hid (hit a b k ↔ ceilQ (a * mkRat k 1) ≤ (b * mkRat k 1).floor) := Iff.rfl
     have HPK : Hid (pick a b k = if (b * mkRat k 1).floor < 0 then (b * mkRat k 1).floor else if ceilQ (a * mkRat k 1) < 0 then 0 else ceilQ (a * mkRat k 1)) := rfl
     have lfl : nl W32 (ceilQ (a * mkRat k 1)).natAbs ≤ 15 := Nat.le_trans (nlceil a k L hs1 (by omega)) (by omega)
     have lfh : nl W32 ((b * mkRat k 1).floor).natAbs ≤ 15 := Nat.le_trans (nlfloor b k L hs2 (by omega)) (by omega)
     generalize ceilQ (a * mkRat k 1) = lo at *
     generalize (b * mkRat k 1).floor = hi at *
     obtain ⟨Vy_0,Vy_1,Vy_2,Vy_3⟩ := id Vy
     obtain ⟨Vz_0,Vz_1,Vz_2,Vz_3⟩ := id Vz
     go_wp2_with fail
     clear Vy_0 Vy_1 Vy_2 Vy_3 Vz_0 Vz_1 Vz_2 Vz_3
     refine (rorder_any _ _ lo hi _ Jy Jz).mono ?_
     rintro e w30 ⟨rfl,b30⟩
     replace hu := hu.below b30
     replace hv := hv.below b30
     replace Jy := Jy.below b30
     replace Jz := Jz.below b30
     replace VA := VA.below b30
     replace VB := VB.below b30
     replace VR := VR.below b30
     replace Vy := Vy.below b30
     replace Vz := Vz.below b30
     replace BB := BB.trans (b30.mono BB.size)
     clear b30
     by_cases hc : lo ≤ hi
     ·have hcc : ¬ cmpI lo hi > 0 := by unfold cmpI; split <;> (try split) <;> omega
      generalize cmpI lo hi = cc at *
      have hpl : py = decide (lo < 0) := by obtain ⟨_,_,el,_⟩ := id Jy; simp only [Value.agg.injEq,Array.mk.injEq,List.cons.injEq,Value.bool.injEq] at el; exact el.1
      have hph : pz = decide (hi < 0) := by obtain ⟨_,_,el,_⟩ := id Jz; simp only [Value.agg.injEq,Array.mk.injEq,List.cons.injEq,Value.bool.injEq] at el; exact el.1
      have HC : Hid (hit a b k) := HH.out.2 hc
      clear HH hc
      by_cases h1 : hi < 0
      ·have HPV : Hid (pick a b k = hi) := by show _ = _; rw [HPK.out,if_pos h1]
       obtain rfl : pz = true := by rw [hph]; exact decide_eq_true h1
       clear hph hpl h1 HPK
       obtain ⟨y0,y1,y2,y3⟩ := id Vy
       obtain ⟨z0,z1,z2,z3⟩ := id Vz
       obtain ⟨Wt,hWt,hSt,hLt,VNt⟩ := V2.lay w30 36 (.bool py) (.slice ay ny cy)
       obtain ⟨t0,t1,t2,t3⟩ := id (Vz.below hLt)
       obtain ⟨s0,s1,s2,s3⟩ := id VNt
       rw [hWt] at t0 t1 t2 t3 s0 s1 s2 s3
       clear hWt hSt hLt VNt
       have hZ33 : w.heap.size ≤ w30.heap.size := BB.size
       have hN33VA : w.heap.size ≠ w30.heap.size := Nat.ne_of_lt VA.lt
       have hN33VB : w.heap.size + 1 ≠ w30.heap.size := Nat.ne_of_lt VB.lt
       have hN33VR : w.heap.size + 1 + 1 ≠ w30.heap.size := Nat.ne_of_lt VR.lt
       have hN33Vy : Ry ≠ w30.heap.size := Nat.ne_of_lt Vy.lt
       have hN33Vz : Rz ≠ w30.heap.size := Nat.ne_of_lt Vz.lt
       obtain ⟨W33,hW33,hS33,hL33,VN⟩ := V2.lay w30 36 (.bool true) (.slice az nz cz)
       replace hu := hu.below hL33
       replace hv := hv.below hL33
       replace Jy := Jy.below hL33
       replace Jz := Jz.below hL33
       replace VA := VA.below hL33
       replace VB := VB.below hL33
       replace VR := VR.below hL33
       replace Vy := Vy.below hL33
       replace Vz := Vz.below hL33
       replace BB := BB.trans (hL33.mono BB.size)
       clear hL33
       obtain ⟨Vz_0,Vz_1,Vz_2,Vz_3⟩ := id Vz
       rw [hW33] at Vz_0 Vz_1 Vz_2 Vz_3
       go_wp2_with fail
       clear Vz_0 Vz_1 Vz_2 Vz_3
       rw [← hW33]
       generalize w30.heap.size = R33 at *
       clear hW33 hS33
       clear y0 y1 y2 y3 z0 z1 z2 z3
       clear t0 t1 t2 t3 s0 s1 s2 s3
       refine (jwhole_at _ (hi) 15 _ Jz lfh (by omega)).mono ?_
       rintro e w41 ⟨q1,rfl,g1,b41⟩
       replace hu := hu.below b41
       replace hv := hv.below b41
       replace Jy := Jy.below b41
       replace Jz := Jz.below b41
       replace VA := VA.below b41
       replace VB := VB.below b41
       replace VR := VR.below b41
       replace Vy := Vy.below b41
       replace Vz := Vz.below b41
       replace VN := VN.below b41
       replace BB := BB.trans (b41.mono BB.size)
       clear b41
       go_wp2_with fail
       refine (jsmall_at 1 k _ (by omega) (by omega) (by omega) (by omega)).mono ?_
       rintro e w42 ⟨q2,rfl,g2,b42⟩
       replace hu := hu.below b42
       replace hv := hv.below b42
       replace Jy := Jy.below b42
       replace Jz := Jz.below b42
       replace g1 := g1.below b42
       replace VA := VA.below b42
       replace VB := VB.below b42
       replace VR := VR.below b42
       replace Vy := Vy.below b42
       replace Vz := Vz.below b42
       replace VN := VN.below b42
       replace BB := BB.trans (b42.mono BB.size)
       clear b42
       go_wp2_with fail
       refine (jtimes_at _ _ ((hi : Int) : Rat) (mkRat 1 k) 15 2 _ g1 g2 (by omega)).mono ?_
       rintro e w43 ⟨q3,rfl,g3,b43⟩
       replace hu := hu.below b43
       replace hv := hv.below b43
       replace Jy := Jy.below b43
       replace Jz := Jz.below b43
       replace g1 := g1.below b43
       replace g2 := g2.below b43
       replace VA := VA.below b43
       replace VB := VB.below b43
       replace VR := VR.below b43
       replace Vy := Vy.below b43
       replace Vz := Vz.below b43
       replace VN := VN.below b43
       replace BB := BB.trans (b43.mono BB.size)
       clear b43
       rw [← HPV.out] at g3
       obtain ⟨p9,a9,n9,c9,b9,m9,d9,rfl⟩ := g3.open
       have hKp := VR.keepJ (.bool p9) (.slice a9 n9 c9) (.slice b9 m9 d9)
       have hu_n := hu.keep hKp
       have hv_n := hv.keep hKp
       have Jy_n := Jy.keep hKp
       have Jz_n := Jz.keep hKp
       have g1_n := g1.keep hKp
       have g2_n := g2.keep hKp
       have g3_n := g3.keep hKp
       have BB_n := below_store3 (R := w.heap.size + 1 + 1) BB (by omega) (.bool p9) (.slice a9 n9 c9) (.slice b9 m9 d9)
       clear hKp
       obtain ⟨q1,q2,q3,q4,q5,q6⟩ := id VR
       go_wp2
       (try simp only [Exit.inBlock,Exit.then])
       refine bodyPost_ret (v := .tuple #[.agg #[.bool p9,.slice a9 n9 c9,.slice b9 m9 d9],.bool true]) (by simp [results,go_sem,q1,q2,q3]) rfl ?_
       exact ⟨_,_,_,_,_,_,_,_,rfl,(fun h => by cases h),(fun _ => ⟨k,hk1,hlt,HC.out,HNO.out,g3_n.le (by omega)⟩),BB_n⟩
      ·obtain rfl : pz = false := by rw [hph]; exact decide_eq_false h1
       by_cases h2 : lo < 0
       ·have HPV : Hid (pick a b k = 0) := by show _ = _; rw [HPK.out,if_neg h1,if_pos h2]
        obtain rfl : py = true := by rw [hpl]; exact decide_eq_true h2
        clear hph hpl h1 h2 HPK
        obtain ⟨y0,y1,y2,y3⟩ := id Vy
        obtain ⟨z0,z1,z2,z3⟩ := id Vz
        have hZ43 : w.heap.size ≤ w30.heap.size := BB.size
        have hN43VA : w.heap.size ≠ w30.heap.size := Nat.ne_of_lt VA.lt
        have hN43VB : w.heap.size + 1 ≠ w30.heap.size := Nat.ne_of_lt VB.lt
        have hN43VR : w.heap.size + 1 + 1 ≠ w30.heap.size := Nat.ne_of_lt VR.lt
        have hN43Vy : Ry ≠ w30.heap.size := Nat.ne_of_lt Vy.lt
        have hN43Vz : Rz ≠ w30.heap.size := Nat.ne_of_lt Vz.lt
        obtain ⟨W43,hW43,hS43,hL43,VN⟩ := V2.lay w30 36 (.bool true) (.slice ay ny cy)
        replace hu := hu.below hL43
        replace hv := hv.below hL43
        replace Jy := Jy.below hL43
        replace Jz := Jz.below hL43
        replace VA := VA.below hL43
        replace VB := VB.below hL43
        replace VR := VR.below hL43
        replace Vy := Vy.below hL43
        replace Vz := Vz.below hL43
        replace BB := BB.trans (hL43.mono BB.size)
        clear hL43
        obtain ⟨Vy_0,Vy_1,Vy_2,Vy_3⟩ := id Vy
        obtain ⟨Vz_0,Vz_1,Vz_2,Vz_3⟩ := id Vz
        rw [hW43] at Vy_0 Vy_1 Vy_2 Vy_3 Vz_0 Vz_1 Vz_2 Vz_3
        go_wp2_with fail
        clear Vy_0 Vy_1 Vy_2 Vy_3 Vz_0 Vz_1 Vz_2 Vz_3
        rw [← hW43]
        generalize w30.heap.size = R43 at *
        clear hW43 hS43
        clear y0 y1 y2 y3 z0 z1 z2 z3
        refine (rsmall_any 0 _ (by omega) (by omega)).mono ?_
        rintro e w51 ⟨r0,rfl,J0,b51⟩
        replace hu := hu.below b51
        replace hv := hv.below b51
        replace Jy := Jy.below b51
        replace Jz := Jz.below b51
        replace VA := VA.below b51
        replace VB := VB.below b51
        replace VR := VR.below b51
        replace Vy := Vy.below b51
        replace Vz := Vz.below b51
        replace VN := VN.below b51
        replace BB := BB.trans (b51.mono BB.size)
        clear b51
        obtain ⟨p0,a0,n0,c0,rfl⟩ := J0.open
        have hKp := VN.keepJ (.bool p0) (.slice a0 n0 c0)
        have VA_n := VA.other2 (R := R43) (by omega) (.bool p0) (.slice a0 n0 c0)
        have VB_n := VB.other2 (R := R43) (by omega) (.bool p0) (.slice a0 n0 c0)
        have VR_n := VR.other2 (R := R43) (by omega) (.bool p0) (.slice a0 n0 c0)
        have Vy_n := Vy.other (R := R43) (by omega) (.bool p0) (.slice a0 n0 c0)
        have Vz_n := Vz.other (R := R43) (by omega) (.bool p0) (.slice a0 n0 c0)
        have VN_n := VN.same (.bool p0) (.slice a0 n0 c0)
        have hu_n := hu.keep hKp
        have hv_n := hv.keep hKp
        have Jy_n := Jy.keep hKp
        have Jz_n := Jz.keep hKp
        have J0_n := J0.keep hKp
        have BB_n := below_store2 (R := R43) BB (by omega) (.bool p0) (.slice a0 n0 c0)
        clear hKp
        obtain ⟨VN_0,VN_1,VN_2,VN_3⟩ := id VN
        go_wp2_with fail
        clear VN_0 VN_1 VN_2 VN_3
        clear BB hu hv Jy Jz J0 VA VB VR Vy Vz VN
        generalize (w51.setCell ⟨R43,0,none⟩ (.bool p0)).setCell ⟨R43,1,none⟩ (.slice a0 n0 c0) = W44 at *
        have BB := BB_n
        have hu := hu_n
        have hv := hv_n
        have Jy := Jy_n
        have Jz := Jz_n
        have J0 := J0_n
        have VA := VA_n
        have VB := VB_n
        have VR := VR_n
        have Vy := Vy_n
        have Vz := Vz_n
        have VN := VN_n
        clear BB_n hu_n hv_n Jy_n Jz_n J0_n VA_n VB_n VR_n Vy_n Vz_n VN_n
        refine (jwhole_at _ (0) 15 _ J0 (by rw [show ((0 : Int)).natAbs = 0 from rfl,nl_zero]; omega) (by omega)).mono ?_
        rintro e w52 ⟨q1,rfl,g1,b52⟩
        replace hu := hu.below b52
        replace hv := hv.below b52
        replace Jy := Jy.below b52
        replace Jz := Jz.below b52
        replace J0 := J0.below b52
        replace VA := VA.below b52
        replace VB := VB.below b52
        replace VR := VR.below b52
        replace Vy := Vy.below b52
        replace Vz := Vz.below b52
        replace VN := VN.below b52
        replace BB := BB.trans (b52.mono BB.size)
        clear b52
        go_wp2_with fail
        refine (jsmall_at 1 k _ (by omega) (by omega) (by omega) (by omega)).mono ?_
        rintro e w53 ⟨q2,rfl,g2,b53⟩
        replace hu := hu.below b53
        replace hv := hv.below b53
        replace Jy := Jy.below b53
        replace Jz := Jz.below b53
        replace J0 := J0.below b53
        replace g1 := g1.below b53
        replace VA := VA.below b53
        replace VB := VB.below b53
        replace VR := VR.below b53
        replace Vy := Vy.below b53
        replace Vz := Vz.below b53
        replace VN := VN.below b53
        replace BB := BB.trans (b53.mono BB.size)
        clear b53
        go_wp2_with fail
        refine (jtimes_at _ _ ((0 : Int) : Rat) (mkRat 1 k) 15 2 _ g1 g2 (by omega)).mono ?_
        rintro e w54 ⟨q3,rfl,g3,b54⟩
        replace hu := hu.below b54
        replace hv := hv.below b54
        replace Jy := Jy.below b54
        replace Jz := Jz.below b54
        replace J0 := J0.below b54
        replace g1 := g1.below b54
        replace g2 := g2.below b54
        replace VA := VA.below b54
        replace VB := VB.below b54
        replace VR := VR.below b54
        replace Vy := Vy.below b54
        replace Vz := Vz.below b54
        replace VN := VN.below b54
        replace BB := BB.trans (b54.mono BB.size)
        clear b54
        rw [← HPV.out] at g3
        obtain ⟨p9,a9,n9,c9,b9,m9,d9,rfl⟩ := g3.open
        have hKp := VR.keepJ (.bool p9) (.slice a9 n9 c9) (.slice b9 m9 d9)
        have hu_n := hu.keep hKp
        have hv_n := hv.keep hKp
        have Jy_n := Jy.keep hKp
        have Jz_n := Jz.keep hKp
        have J0_n := J0.keep hKp
        have g1_n := g1.keep hKp
        have g2_n := g2.keep hKp
        have g3_n := g3.keep hKp
        have BB_n := below_store3 (R := w.heap.size + 1 + 1) BB (by omega) (.bool p9) (.slice a9 n9 c9) (.slice b9 m9 d9)
        clear hKp
        obtain ⟨q1,q2,q3,q4,q5,q6⟩ := id VR
        go_wp2
        (try simp only [Exit.inBlock,Exit.then])
        refine bodyPost_ret (v := .tuple #[.agg #[.bool p9,.slice a9 n9 c9,.slice b9 m9 d9],.bool true]) (by simp [results,go_sem,q1,q2,q3]) rfl ?_
        exact ⟨_,_,_,_,_,_,_,_,rfl,(fun h => by cases h),(fun _ => ⟨k,hk1,hlt,HC.out,HNO.out,g3_n.le (by omega)⟩),BB_n⟩
       ·have HPV : Hid (pick a b k = lo) := by show _ = _; rw [HPK.out,if_neg h1,if_neg h2]
        obtain rfl : py = false := by rw [hpl]; exact decide_eq_false h2
        clear hph hpl h1 h2 HPK
        obtain ⟨y0,y1,y2,y3⟩ := id Vy
        obtain ⟨z0,z1,z2,z3⟩ := id Vz
        have hZ53 : w.heap.size ≤ w30.heap.size := BB.size
        have hN53VA : w.heap.size ≠ w30.heap.size := Nat.ne_of_lt VA.lt
        have hN53VB : w.heap.size + 1 ≠ w30.heap.size := Nat.ne_of_lt VB.lt
        have hN53VR : w.heap.size + 1 + 1 ≠ w30.heap.size := Nat.ne_of_lt VR.lt
        have hN53Vy : Ry ≠ w30.heap.size := Nat.ne_of_lt Vy.lt
        have hN53Vz : Rz ≠ w30.heap.size := Nat.ne_of_lt Vz.lt
        obtain ⟨W53,hW53,hS53,hL53,VN⟩ := V2.lay w30 36 (.bool false) (.slice ay ny cy)
        replace hu := hu.below hL53
        replace hv := hv.below hL53
        replace Jy := Jy.below hL53
        replace Jz := Jz.below hL53
        replace VA := VA.below hL53
        replace VB := VB.below hL53
        replace VR := VR.below hL53
        replace Vy := Vy.below hL53
        replace Vz := Vz.below hL53
        replace BB := BB.trans (hL53.mono BB.size)
        clear hL53
        obtain ⟨Vy_0,Vy_1,Vy_2,Vy_3⟩ := id Vy
        obtain ⟨Vz_0,Vz_1,Vz_2,Vz_3⟩ := id Vz
        rw [hW53] at Vy_0 Vy_1 Vy_2 Vy_3 Vz_0 Vz_1 Vz_2 Vz_3
        go_wp2_with fail
        clear Vy_0 Vy_1 Vy_2 Vy_3 Vz_0 Vz_1 Vz_2 Vz_3
        rw [← hW53]
        generalize w30.heap.size = R53 at *
        clear hW53 hS53
        clear y0 y1 y2 y3 z0 z1 z2 z3
        refine (jwhole_at _ (lo) 15 _ Jy lfl (by omega)).mono ?_
        rintro e w61 ⟨q1,rfl,g1,b61⟩
        replace hu := hu.below b61
        replace hv := hv.below b61
        replace Jy := Jy.below b61
        replace Jz := Jz.below b61
        replace VA := VA.below b61
        replace VB := VB.below b61
        replace VR := VR.below b61
        replace Vy := Vy.below b61
        replace Vz := Vz.below b61
        replace VN := VN.below b61
        replace BB := BB.trans (b61.mono BB.size)
        clear b61
        go_wp2_with fail
        refine (jsmall_at 1 k _ (by omega) (by omega) (by omega) (by omega)).mono ?_
        rintro e w62 ⟨q2,rfl,g2,b62⟩
        replace hu := hu.below b62
        replace hv := hv.below b62
        replace Jy := Jy.below b62
        replace Jz := Jz.below b62
        replace g1 := g1.below b62
        replace VA := VA.below b62
        replace VB := VB.below b62
        replace VR := VR.below b62
        replace Vy := Vy.below b62
        replace Vz := Vz.below b62
        replace VN := VN.below b62
        replace BB := BB.trans (b62.mono BB.size)
        clear b62
        go_wp2_with fail
        refine (jtimes_at _ _ ((lo : Int) : Rat) (mkRat 1 k) 15 2 _ g1 g2 (by omega)).mono ?_
        rintro e w63 ⟨q3,rfl,g3,b63⟩
        replace hu := hu.below b63
        replace hv := hv.below b63
        replace Jy := Jy.below b63
        replace Jz := Jz.below b63
        replace g1 := g1.below b63
        replace g2 := g2.below b63
        replace VA := VA.below b63
        replace VB := VB.below b63
        replace VR := VR.below b63
        replace Vy := Vy.below b63
        replace Vz := Vz.below b63
        replace VN := VN.below b63
        replace BB := BB.trans (b63.mono BB.size)
        clear b63
        rw [← HPV.out] at g3
        obtain ⟨p9,a9,n9,c9,b9,m9,d9,rfl⟩ := g3.open
        have hKp := VR.keepJ (.bool p9) (.slice a9 n9 c9) (.slice b9 m9 d9)
        have hu_n := hu.keep hKp
        have hv_n := hv.keep hKp
        have Jy_n := Jy.keep hKp
        have Jz_n := Jz.keep hKp
        have g1_n := g1.keep hKp
        have g2_n := g2.keep hKp
        have g3_n := g3.keep hKp
        have BB_n := below_store3 (R := w.heap.size + 1 + 1) BB (by omega) (.bool p9) (.slice a9 n9 c9) (.slice b9 m9 d9)
        clear hKp
        obtain ⟨q1,q2,q3,q4,q5,q6⟩ := id VR
        go_wp2
        (try simp only [Exit.inBlock,Exit.then])
        refine bodyPost_ret (v := .tuple #[.agg #[.bool p9,.slice a9 n9 c9,.slice b9 m9 d9],.bool true]) (by simp [results,go_sem,q1,q2,q3]) rfl ?_
        exact ⟨_,_,_,_,_,_,_,_,rfl,(fun h => by cases h),(fun _ => ⟨k,hk1,hlt,HC.out,HNO.out,g3_n.le (by omega)⟩),BB_n⟩
     ·have hcc : cmpI lo hi > 0 := by unfold cmpI; rw [if_neg (by omega),if_pos (by omega)]; omega
      generalize cmpI lo hi = cc at *
      have HN2 : Hid (∀ j,1 ≤ j → j < k + 1 → ¬ hit a b j) := fun j h1 h2 => by
       by_cases e : j = k
       ·subst e; exact fun h => hc (HH.out.1 h)
       ·exact HNO.out j h1 (by omega)
      clear HH HPK
      go_wp2
      go_roundw
      case rel => exact ⟨k + 1,by omega,by omega,by go_num,HN2,VA,VB,VR,hu,hv,BB⟩
      case measure => simp [intOf]; omega
  ·have c1 : ¬ (k : Int) ≤ 60 := by omega
   have hKp := VR.keepJ (.bool false) (.slice none 0 0) (.slice none 0 0)
   have hu_n := hu.keep hKp
   have hv_n := hv.keep hKp
   have BB_n := below_store3 (R := w.heap.size + 1 + 1) BB (by omega) (.bool false) (.slice none 0 0) (.slice none 0 0)
   clear hKp
   obtain ⟨q1,q2,q3,q4,q5,q6⟩ := id VR
   go_wp2
   (try simp only [Exit.inBlock,Exit.then])
   refine bodyPost_ret (v := .tuple #[.agg #[.bool false,.slice none 0 0,.slice none 0 0],.bool false]) (by simp [results,go_sem,q1,q2,q3]) rfl ?_
   exact ⟨_,_,_,_,_,_,_,_,rfl,(fun _ j h1 h2 => HNO.out j h1 (by omega)),(fun h => by cases h),BB_n⟩
end Go.Proofs.YtmbmboiefhmfmaaGreatDoor

namespace Go.Proofs.YtmbmboiefhmfmaaGreatDoor
set_option linter.unusedVariables false
set_option linter.unusedSimpArgs false
theorem mkRat_one (k : Nat) : mkRat (k : Int) 1 = (k : Rat) := by rw [Rat.mkRat_eq_div,Rat.intCast_natCast]; grind
theorem le_mk (a : Rat) (n : Int) (k : Nat) (hk : 0 < k) : a ≤ mkRat n k ↔ a * mkRat k 1 ≤ (n : Rat) := by
 rw [mkRat_one,Rat.mkRat_eq_div]
 have hK : (0 : Rat) < (k : Rat) := Rat.natCast_pos.2 hk
 generalize (k : Rat) = K at *
 generalize (n : Rat) = m at *
 constructor
 ·intro h
  have h2 := Rat.mul_le_mul_of_nonneg_right h (Rat.le_of_lt hK)
  have e : m / K * K = m := by grind
  rw [e] at h2; exact h2
 ·intro h
  have hi : (0 : Rat) ≤ K⁻¹ := Rat.le_of_lt (Rat.inv_pos.2 hK)
  have h2 := Rat.mul_le_mul_of_nonneg_right h hi
  have e : a * K * K⁻¹ = a := by grind
  rw [e,← Rat.div_def] at h2; exact h2
theorem mk_le (b : Rat) (n : Int) (k : Nat) (hk : 0 < k) : mkRat n k ≤ b ↔ (n : Rat) ≤ b * mkRat k 1 := by
 rw [mkRat_one,Rat.mkRat_eq_div]
 have hK : (0 : Rat) < (k : Rat) := Rat.natCast_pos.2 hk
 generalize (k : Rat) = K at *
 generalize (n : Rat) = m at *
 constructor
 ·intro h
  have h2 := Rat.mul_le_mul_of_nonneg_right h (Rat.le_of_lt hK)
  have e : m / K * K = m := by grind
  rw [e] at h2; exact h2
 ·intro h
  have hi : (0 : Rat) ≤ K⁻¹ := Rat.le_of_lt (Rat.inv_pos.2 hK)
  have h2 := Rat.mul_le_mul_of_nonneg_right h hi
  have e : b * K * K⁻¹ = b := by grind
  rw [e,← Rat.div_def] at h2; exact h2
theorem in_hit (a b : Rat) (n : Int) (k : Nat) (hk : 0 < k) (h1 : a ≤ mkRat n k) (h2 : mkRat n k ≤ b) : hit a b k := by
 unfold hit
 have g1 := (ceil_le _ _).2 ((le_mk a n k hk).1 h1)
 have g2 := Rat.le_floor_iff.2 ((mk_le b n k hk).1 h2)
 omega
theorem hit_in (a b : Rat) (k : Nat) (hk : 0 < k) (h : hit a b k) : a ≤ mkRat (ceilQ (a * mkRat k 1)) k ∧ mkRat (ceilQ (a * mkRat k 1)) k ≤ b := by
 unfold hit at h
 exact ⟨(le_mk a _ k hk).2 ((ceil_le _ _).1 (Int.le_refl _)),(mk_le b _ k hk).2 (Rat.le_floor_iff.1 h)⟩
def SimpRel (a b r : Rat) : Prop := (0 < a ∧ MinIn a b r) ∨ (b < 0 ∧ MinIn (-b) (-a) (-r)) ∨ (a ≤ 0 ∧ 0 ≤ b ∧ r = 0)
theorem SimpRel.le {a b r : Rat} (h : SimpRel a b r) : a ≤ r ∧ r ≤ b := by
 rcases h with ⟨_,h⟩ | ⟨_,h⟩ | ⟨h1,h2,rfl⟩
 ·exact ⟨h.1,h.2.1⟩
 ·have h1 := h.1
  have h2 := h.2.1
  exact ⟨by grind,by grind⟩
 ·exact ⟨h1,h2⟩
theorem minIn_hit {a b r : Rat} (h : MinIn a b r) : hit a b r.den := in_hit a b r.num r.den r.den_pos (by rw [Rat.mkRat_self]; exact h.1) (by rw [Rat.mkRat_self]; exact h.2.1)
theorem num_pos' {r : Rat} (h : 0 < r) : 0 < r.num := by have := (Rat.lt_iff 0 r).1 h; simpa using this
theorem minIn_pick {a b r : Rat} (ha : 0 < a) (h : MinIn a b r) (k : Nat) (hk : 1 ≤ k) (hh : hit a b k) (hl : ∀ j,1 ≤ j → j < k → ¬ hit a b j) : k = r.den ∧ ceilQ (a * mkRat k 1) = r.num ∧ 0 < ceilQ (a * mkRat k 1) := by
 have h1 := minIn_hit h
 have h2 : k ≤ r.den := by
  rcases Nat.lt_or_ge r.den k with g | g
  ·exact absurd h1 (hl r.den r.den_pos g)
  ·exact g
 obtain ⟨h3,h4⟩ := hit_in a b k (by omega) hh
 have hc : 0 < ceilQ (a * mkRat k 1) := by
  have h5 : 0 < mkRat (ceilQ (a * mkRat k 1)) k := by grind
  exact (posRat h5).2
 obtain ⟨p,hp⟩ : ∃ p : Nat,ceilQ (a * mkRat k 1) = (p : Int) := ⟨(ceilQ (a * mkRat k 1)).toNat,by omega⟩
 rw [hp] at h3 h4
 obtain ⟨h5,h6⟩ := h.2.2.2 p k (by omega) h3 h4
 have hk2 : k = r.den := by omega
 refine ⟨hk2,?_,hc⟩
 have h7 : ceilQ (a * mkRat k 1) ≤ r.num := (ceil_le _ _).2 ((le_mk a r.num k (by omega)).1 (by rw [hk2,Rat.mkRat_self]; exact h.1))
 omega
theorem mk_mul (n : Int) (k : Nat) : (n : Rat) * mkRat 1 k = mkRat n k := by
 rw [Rat.mkRat_eq_div,Rat.mkRat_eq_div,Rat.intCast_one]; grind
theorem ceil_neg (x : Rat) (k : Nat) : ceilQ (-x * mkRat k 1) = -((x * mkRat k 1).floor) := by
 unfold ceilQ
 rw [show -(-x * mkRat k 1) = x * mkRat k 1 by grind]
theorem floor_minus (x : Rat) (k : Nat) : (-x * mkRat k 1).floor = -(ceilQ (x * mkRat k 1)) := by
 unfold ceilQ
 rw [show -x * mkRat k 1 = -(x * mkRat k 1) by grind]; omega
theorem hit_neg (a b : Rat) (k : Nat) : hit (-b) (-a) k ↔ hit a b k := by
 unfold hit
 rw [ceil_neg,floor_minus]; omega
theorem simp_yes {a b r : Rat} (h : SimpRel a b r) (k : Nat) (hk : 1 ≤ k) (hh : hit a b k) (hl : ∀ j,1 ≤ j → j < k → ¬ hit a b j) : (pick a b k : Rat) * mkRat 1 k = r := by
 rw [mk_mul]
 rcases h with ⟨ha,h⟩ | ⟨hb,h⟩ | ⟨h1,h2,rfl⟩
 ·obtain ⟨e1,e2,e3⟩ := minIn_pick ha h k hk hh hl
  have hf : ¬ (b * mkRat k 1).floor < 0 := by unfold hit at hh; omega
  unfold pick
  rw [if_neg hf,if_neg (by omega),e2,e1]; exact Rat.mkRat_self r
 ·obtain ⟨e1,e2,e3⟩ := minIn_pick (by grind) h k hk ((hit_neg a b k).2 hh) (fun j a1 a2 g => hl j a1 a2 ((hit_neg a b j).1 g))
  rw [ceil_neg] at e2 e3
  unfold pick
  rw [if_pos (by omega)]
  rw [Rat.neg_den] at e1
  rw [Rat.neg_num] at e2
  rw [show (b * mkRat k 1).floor = r.num by omega,e1]; exact Rat.mkRat_self r
 ·have hit1 : hit a b 1 := in_hit a b 0 1 (by omega) (by rw [show mkRat 0 1 = (0 : Rat) by simp]; exact h1) (by rw [show mkRat 0 1 = (0 : Rat) by simp]; exact h2)
  obtain rfl : k = 1 := by
   rcases Nat.lt_or_ge 1 k with g | g
   ·exact absurd hit1 (hl 1 (by omega) g)
   ·omega
  have c1 : ceilQ (a * mkRat (1 : Nat) 1) ≤ 0 := (ceil_le _ _).2 ((le_mk a 0 1 (by omega)).1 (by rw [show mkRat 0 1 = (0 : Rat) by simp]; exact h1))
  have c2 : 0 ≤ (b * mkRat (1 : Nat) 1).floor := Rat.le_floor_iff.2 ((mk_le b 0 1 (by omega)).1 (by rw [show mkRat 0 1 = (0 : Rat) by simp]; exact h2))
  have : pick a b 1 = 0 := by
   unfold pick
   rw [if_neg (by omega)]
   split <;> omega
  rw [this]; simp
theorem simp_no {a b r : Rat} (h : SimpRel a b r) (hl : ∀ j,1 ≤ j → j ≤ 60 → ¬ hit a b j) : 60 < r.den := by
 rcases h with ⟨ha,h⟩ | ⟨hb,h⟩ | ⟨h1,h2,rfl⟩
 ·rcases Nat.lt_or_ge 60 r.den with g | g
  ·exact g
  ·exact absurd (minIn_hit h) (hl r.den r.den_pos g)
 ·have h1 := minIn_hit h
  rw [Rat.neg_den] at h1
  rcases Nat.lt_or_ge 60 r.den with g | g
  ·exact g
  ·exact absurd ((hit_neg a b _).1 h1) (hl r.den r.den_pos g)
 ·exact absurd (in_hit a b 0 1 (by omega) (by rw [show mkRat 0 1 = (0 : Rat) by simp]; exact h1) (by rw [show mkRat 0 1 = (0 : Rat) by simp]; exact h2)) (hl 1 (by omega) (by omega))
theorem minIn_sz {a b r : Rat} (ha : 0 < a) (h : MinIn a b r) {L : Nat} (hs : qsz a ≤ L) : qsz r ≤ L := by
 have hn := num_pos' ha
 have hr := num_pos' h.2.2.1
 obtain ⟨p,hp⟩ : ∃ p : Nat,a.num = (p : Int) := ⟨a.num.toNat,by omega⟩
 have e : mkRat (p : Int) a.den = a := by rw [← hp]; exact Rat.mkRat_self a
 obtain ⟨h1,h2⟩ := h.2.2.2 p a.den a.den_pos (by rw [e]; exact Rat.le_refl) (by rw [e]; exact Rat.le_trans h.1 h.2.1)
 have h3 := Nat.le_trans (qsz_num a) hs
 have h4 := Nat.le_trans (qsz_den a) hs
 exact Nat.max_le.2 ⟨Nat.le_trans (nl_mono W32 _ _ (by decide) (by omega)) h3,Nat.le_trans (nl_mono W32 _ _ (by decide) h1) h4⟩
theorem SimpRel.sz {a b r : Rat} (h : SimpRel a b r) {L : Nat} (hL : 1 ≤ L) (h1 : qsz a ≤ L) (h2 : qsz b ≤ L) : qsz r ≤ L := by
 rcases h with ⟨ha,h⟩ | ⟨hb,h⟩ | ⟨_,_,rfl⟩
 ·exact minIn_sz ha h h1
 ·have := minIn_sz (by grind) h (L := L) (by rw [qsz_neg]; exact h2)
  rw [qsz_neg] at this; exact this
 ·exact Nat.le_trans (qsz_int 0 (L := 1) (by decide) (by omega)) hL
end Go.Proofs.YtmbmboiefhmfmaaGreatDoor
