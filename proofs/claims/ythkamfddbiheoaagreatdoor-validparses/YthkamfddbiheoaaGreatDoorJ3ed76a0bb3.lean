/-
  Texts of mine.
-/
import Derived.Test.YthkamfddbiheoaaGreatDoorJa607d653bf
import Derived.Test.YthkamfddbiheoaaGreatDoorJ68107595ea
import Derived.Test.YthkamfddbiheoaaGreatDoorJ0f71ddbfb2
namespace Go.Proofs.YthkamfddbiheoaaGreatDoor
open Go.RowKit
set_option linter.unusedVariables false
set_option linter.unusedSimpArgs false

def Flt (a b c d : Int) : Value := .agg #[.int .i64 a, .int .i64 b, .int .i64 c, .int .i64 d]
/-- What is told of a text: the model, and its fault. -/
inductive Vp (s : ByteArray) : Int → List (List TidN) → Int → Int → Int → Int → Prop
 | bad (h : ¬ mrE s = 0) : Vp s 0 [] (mrE s : Int) (mrA s : Int) 0 0
 | fault (h : mrE s = 0) (a c d : Int) (ha : ¬ a = 0) (hc : ChkOut (mrF s : Int) (mrT s).length (lenT (mrT s)) (ndT (mrT s)) (Flt a 0 c d)) : Vp s 0 [] a 0 c d
 | fine (h : mrE s = 0) (hc : ChkOut (mrF s : Int) (mrT s).length (lenT (mrT s)) (ndT (mrT s)) (Flt 0 0 0 0)) : Vp s (mrF s : Int) (mrT s) 0 0 0 0
def VpOut (w : World) (s : ByteArray) (e : Ending) (w' : World) : Prop := ∃ (F : Int) (v : Value) (ls : List (List TidN)) (a b c d : Int), e = .returned (.tuple #[.agg #[.int .i64 F, v], .agg #[.int .i64 a, .int .i64 b, .int .i64 c, .int .i64 d]]) ∧ TMo w.heap.size w' v ls ∧ Vp s F ls a b c d ∧ Below w.heap.size w w'
/-- Between two blocks all is as it was, and all limbs are. -/
def Sd (B M : Nat) (w1 w : World) : Prop := (∀ k, B ≤ k → k < M → w.heap[k]? = w1.heap[k]?) ∧ KeepQ IsLimb w1 w ∧ M ≤ w.heap.size
theorem Sd.below {B M : Nat} {w1 w w' : World} (h : Sd B M w1 w) (hb : Below w.heap.size w w') : Sd B M w1 w' := ⟨fun k h1 h2 => (hb.block k (by have := h.2.2; omega)).trans (h.1 k h1 h2), h.2.1.trans (KeepQ.below hb), Nat.le_trans h.2.2 hb.size⟩
theorem Sd.set {B M : Nat} {w1 w : World} (h : Sd B M w1 w) {b o : Nat} {old : Value} (hc : w.cell? ⟨b, o, none⟩ = some old) (hl : ¬ IsLimb old) (hb : b < B ∨ M ≤ b) (u : Value) : Sd B M w1 (w.setCell ⟨b, o, none⟩ u) := ⟨fun k h1 h2 => (Below.heap_setCell _ _ _ _ (by show k ≠ b; omega)).trans (h.1 k h1 h2), h.2.1.trans (keepL_set hc hl u), by simpa using h.2.2⟩
theorem TMo.sd {B M : Nat} {w1 w : World} {v : Value} {ls : List (List TidN)} (h : TMo B w1 v ls) (hM : w1.heap.size ≤ M) (s : Sd B M w1 w) : TMo B w v ls := by
 have row : ∀ {T : TypeId} {k n : Nat} {x : Value} {us : List Value}, w1.ownsRow B T k x n us → w.ownsRow B T k x n us := fun {T k n x us} ho => by
  have hlt := World.ownsRow.lt ho
  refine ⟨ho.1, ?_⟩
  rcases ho.2 with h1 | ⟨g, cap, cur, rfl, h2, h3, h4⟩
  ·exact .inl h1
  ·exact .inr ⟨g, cap, cur, rfl, h2, (s.1 g h2 (by have := (hlt g rfl).2; omega)).trans h3, h4⟩
 have pure : ∀ {g : Nat}, B ≤ g → g < w1.heap.size → PureB IsLimb w1 g → PureB IsLimb w g := fun {g} h1 h2 hp o x hx => by
  rw [World.cell?_of_block (w := w1) (s.1 g h1 (by omega))] at hx
  exact hp o x hx
 obtain ⟨us, h1, h2, h3⟩ := h
 refine ⟨us, row h1, fun g hg => pure (World.ownsRow.lt h1 g hg).1 (World.ownsRow.lt h1 g hg).2 (h2 g hg), fun i l hi => ?_⟩
 obtain ⟨u, hu, cs, c1, c2, c3⟩ := h3 i l hi
 exact ⟨u, hu, cs, row c1, fun g hg => pure (World.ownsRow.lt c1 g hg).1 (World.ownsRow.lt c1 g hg).2 (c2 g hg), fun q d hq => tnodeEl.keep (c3 q d hq) s.2.1⟩

set_option maxRecDepth 100000 in
set_option maxHeartbeats 8000000 in
theorem vparse_at (s : ByteArray) (w : World) (hs : s.size ≤ 4000) (ht : Tab w) (hE : Erg w) : Calls Tryz.prog 15 #[.string s] w (VpOut w s) := by
 have CR := fun (W : World) (hT : Tab W) (hE : Erg W) => mread_at s W hs hT hE
 unfold ReadOut at CR
 have HG := mrT_good s hs (rd0_fine s w hs)
 have HV0 : Hid (∀ F ls a b c d, Vp s F ls a b c d → Vp s F ls a b c d) := fun _ _ _ _ _ _ h => h
 obtain ⟨W0, hW0, hS0, hL0, VZ⟩ := V2.lay w 24 (.int .i64 0) (.slice none 0 0)
 obtain ⟨W1, hW1, hS1, hL1, VF⟩ := V4.lay W0 31 (.int .i64 0) (.int .i64 0) (.int .i64 0) (.int .i64 0)
 replace VZ := VZ.below hL1
 have BB := hL0.trans (hL1.mono hL0.size)
 rw [hS0] at VF
 have ht1 := ht.below BB
 have hE1 := hE.below BB
 have CRH : Hid _ := CR
 have HGH : Hid _ := HG
 clear CR HG
 go_enter Tryz.func15, Tryz.ntmps15
 go_wp2_with fail
 rw [← hW0]
 rw [← hW1]
 obtain ⟨RF, hRF⟩ : ∃ q, w.heap.size + 1 = q := ⟨_, rfl⟩
 rw [hRF] at VF
 rw [hRF]
 obtain ⟨RZ, hRZ⟩ : ∃ q, w.heap.size = q := ⟨_, rfl⟩
 have hzw : w.heap.size ≤ RZ := by omega
 rw [hRZ] at VZ
 rw [hRZ]
 have hZF : RZ < RF := by omega
 have hF1 : RF < W1.heap.size := by omega
 clear hW0 hW1 hS0 hS1 hL0 hL1 hRF hRZ
 refine Calls.mono (CRH.out _ ht1 hE1) ?_
 rintro e w1 ⟨v, rfl, MO, b1⟩
 have MO1 : TMo (RF + 1) w1 v (mrT s) := MO.le (by omega)
 replace VZ := VZ.below b1
 replace VF := VF.below b1
 replace BB := BB.trans (b1.mono BB.size)
 have hF2 : RF < w1.heap.size := by have := b1.size; omega
 clear CRH MO ht1 hE1 b1
 obtain ⟨av, cv, rfl, hcv⟩ := MO1.form
 obtain ⟨FF, hFF⟩ : ∃ q : Int, (mrF s : Int) = q := ⟨_, rfl⟩
 have HFF : Hid ((mrF s : Int) = FF) := hFF
 rw [hFF]
 obtain ⟨E, hEE⟩ : ∃ q : Int, (mrE s : Int) = q := ⟨_, rfl⟩
 have HEE : Hid ((mrE s : Int) = E) := hEE
 obtain ⟨A, hAA⟩ : ∃ q : Int, (mrA s : Int) = q := ⟨_, rfl⟩
 have HAA : Hid ((mrA s : Int) = A) := hAA
 rw [hEE, hAA]
 obtain ⟨ls, hls⟩ : ∃ l, mrT s = l := ⟨_, rfl⟩
 have HLS : Hid (mrT s = ls) := hls
 rw [hls] at MO1 hcv
 rw [hls]
 clear hls
 obtain ⟨W3, hW3, hS3, hL3, VM⟩ := V2.lay w1 24 (.int .i64 FF) (.slice av ls.length cv)
 obtain ⟨W4, hW4, hS4, hL4, VQ⟩ := V4.lay W3 31 (.int .i64 E) (.int .i64 A) (.int .i64 0) (.int .i64 0)
 rw [hS3] at VQ
 replace VM := VM.below hL4
 obtain ⟨q1, q2, q3, q4⟩ := id VM
 rw [hW4, hW3] at q1 q2 q3 q4
 obtain ⟨⟨f1, f2, f3, f4, f5, f6⟩, f7, f8⟩ := id VQ
 rw [hW4, hW3] at f1 f2 f3 f4 f5 f6 f7 f8
 have BL : Below w1.heap.size w1 W4 := hL3.trans (hL4.mono (by omega))
 replace VZ := VZ.below BL
 replace VF := VF.below BL
 have SD : Sd (RF + 1) w1.heap.size w1 W4 := (show Sd (RF + 1) w1.heap.size w1 w1 from ⟨fun _ _ _ => rfl, KeepQ.refl _ _, Nat.le_refl _⟩).below BL
 replace BB := BB.trans (BL.mono BB.size)
 by_cases he : E = 0
 ·subst he
  have HE : Hid (mrE s = 0) := by have := HEE.out; show _ = _; omega
  have hA0 : A = 0 := by rw [← HAA.out]; unfold mrA; rw [if_pos HE.out]; rfl
  subst hA0
  clear hFF hEE hAA
  go_wp2_with fail
  rw [← hW3]
  rw [← hW4]
  obtain ⟨RQ, hRQ⟩ : ∃ q, w1.heap.size + 1 = q := ⟨_, rfl⟩
  obtain ⟨RM_, hRM⟩ : ∃ q, w1.heap.size = q := ⟨_, rfl⟩
  rw [hRQ] at VQ
  rw [hRQ]
  have MO0 : Hid (TMo (RF + 1) w1 (.slice av ls.length cv) ls) := MO1
  have HRM : Hid (w1.heap.size ≤ RM_) := (show _ ≤ _ by omega)
  rw [hRM] at VM hF2 SD
  clear MO1
  rw [hRM]
  have hFM : RF < RM_ := hF2
  have hMQ : RM_ < RQ := by omega
  clear q1 q2 q3 q4 f1 f2 f3 f4 f5 f6 f7 f8 hW3 hW4 hS3 hS4 hL3 hL4 BL hRQ hRM
  have MR := TMo.mrowG (TMo.sd MO0.out HRM.out SD) (by rw [← HLS.out]; exact HGH.out)
  have ht4 := ht.below BB
  refine (check_at FF _ ls.length (lenT ls) (ndT ls) 20000 _ MR ht4 (by omega) (by omega)).mono ?_
  rintro e w5 ⟨u, rfl, HC, b5⟩
  have HCC : Hid (ChkOut FF ls.length (lenT ls) (ndT ls) u) := HC
  obtain ⟨a, c, d, rfl, hz⟩ := HC.open
  replace VZ := VZ.below b5
  replace VF := VF.below b5
  replace VQ := VQ.below b5
  replace VM := VM.below b5
  replace SD := SD.below b5
  replace BB := BB.trans (b5.mono BB.size)
  clear HC MR b5 ht4
  obtain ⟨⟨z1, z2, z3, z4, z5, z6⟩, z7, z8⟩ := id VQ
  have VQ_n := VQ.same (.int .i64 a) (.int .i64 0) (.int .i64 c) (.int .i64 d)
  have VZ_n := VZ.blk (w' := (((w5.setCell ⟨RQ, 0, none⟩ (.int .i64 a)).setCell ⟨RQ, 1, none⟩ (.int .i64 0)).setCell ⟨RQ, 2, none⟩ (.int .i64 c)).setCell ⟨RQ, 3, none⟩ (.int .i64 d)) ((((Below.heap_setCell _ _ _ _ (by show _ ≠ RQ; omega)).trans (Below.heap_setCell _ _ _ _ (by show _ ≠ RQ; omega))).trans (Below.heap_setCell _ _ _ _ (by show _ ≠ RQ; omega))).trans (Below.heap_setCell _ _ _ _ (by show _ ≠ RQ; omega)))
  have VF_n := VF.blk (w' := (((w5.setCell ⟨RQ, 0, none⟩ (.int .i64 a)).setCell ⟨RQ, 1, none⟩ (.int .i64 0)).setCell ⟨RQ, 2, none⟩ (.int .i64 c)).setCell ⟨RQ, 3, none⟩ (.int .i64 d)) ((((Below.heap_setCell _ _ _ _ (by show _ ≠ RQ; omega)).trans (Below.heap_setCell _ _ _ _ (by show _ ≠ RQ; omega))).trans (Below.heap_setCell _ _ _ _ (by show _ ≠ RQ; omega))).trans (Below.heap_setCell _ _ _ _ (by show _ ≠ RQ; omega)))
  have VM_n := VM.blk (w' := (((w5.setCell ⟨RQ, 0, none⟩ (.int .i64 a)).setCell ⟨RQ, 1, none⟩ (.int .i64 0)).setCell ⟨RQ, 2, none⟩ (.int .i64 c)).setCell ⟨RQ, 3, none⟩ (.int .i64 d)) ((((Below.heap_setCell _ _ _ _ (by show _ ≠ RQ; omega)).trans (Below.heap_setCell _ _ _ _ (by show _ ≠ RQ; omega))).trans (Below.heap_setCell _ _ _ _ (by show _ ≠ RQ; omega))).trans (Below.heap_setCell _ _ _ _ (by show _ ≠ RQ; omega)))
  have SD_n := ((((SD).set z1 (limb_int _) (.inr (by omega)) (.int .i64 a)).set (cell_set_by z2 (by omega)) (limb_int _) (.inr (by omega)) (.int .i64 0)).set (cell_set_by (cell_set_by z3 (by omega)) (by omega)) (limb_int _) (.inr (by omega)) (.int .i64 c)).set (cell_set_by (cell_set_by (cell_set_by z7 (by omega)) (by omega)) (by omega)) (limb_int _) (.inr (by omega)) (.int .i64 d)
  have BB_n := ((((BB).setCell (p := ⟨RQ, 0, none⟩) (by show _ ≤ RQ; omega) (.int .i64 a)).setCell (p := ⟨RQ, 1, none⟩) (by show _ ≤ RQ; omega) (.int .i64 0)).setCell (p := ⟨RQ, 2, none⟩) (by show _ ≤ RQ; omega) (.int .i64 c)).setCell (p := ⟨RQ, 3, none⟩) (by show _ ≤ RQ; omega) (.int .i64 d)
  obtain ⟨⟨m1, m2, m3, m4, m5, m6⟩, m7, m8⟩ := id VQ_n
  by_cases ha : a = 0
  ·obtain ⟨rfl, rfl⟩ := hz ha
   subst ha
   clear hz
   obtain ⟨n1, n2, n3, n4⟩ := id VM_n
   obtain ⟨r1, r2, r3, r4⟩ := id VZ_n
   obtain ⟨⟨g1, g2, g3, g4, g5, g6⟩, g7, g8⟩ := id VF_n
   go_wp2_with fail
   (try simp only [Exit.inBlock, Exit.then])
   clear n1 n2 n3 n4 r1 r2 r3 r4 g1 g2 g3 g4 g5 g6 g7 g8
   clear z1 z2 z3 z4 z5 z6 z7 z8 m1 m2 m3 m4 m5 m6 m7 m8 VZ VF VQ VM SD BB
   generalize (((w5.setCell ⟨RQ, 0, none⟩ (.int .i64 0)).setCell ⟨RQ, 1, none⟩ (.int .i64 0)).setCell ⟨RQ, 2, none⟩ (.int .i64 0)).setCell ⟨RQ, 3, none⟩ (.int .i64 0) = W6 at *
   have VZ := VZ_n
   have VF := VF_n
   have VQ := VQ_n
   have VM := VM_n
   have SD := SD_n
   have BB := BB_n
   clear VZ_n VF_n VQ_n VM_n SD_n BB_n
   obtain ⟨z1, z2, z3, z4⟩ := id VZ
   obtain ⟨⟨f1, f2, f3, f4, f5, f6⟩, f7, f8⟩ := id VF
   have VZ1 := VZ.same (.int .i64 FF) (.slice av ls.length cv)
   have VF1 := VF.blk (w' := (W6.setCell ⟨RZ, 0, none⟩ (.int .i64 FF)).setCell ⟨RZ, 1, none⟩ (.slice av ls.length cv)) ((Below.heap_setCell _ _ _ _ (by show _ ≠ RZ; omega)).trans (Below.heap_setCell _ _ _ _ (by show _ ≠ RZ; omega)))
   have SD1 := (SD.set z1 (limb_int _) (.inl (by omega)) (.int .i64 FF)).set (cell_set_by z2 (by omega)) (limb_slice _ _ _) (.inl (by omega)) (.slice av ls.length cv)
   have BB1 := (BB.setCell (p := ⟨RZ, 0, none⟩) hzw (.int .i64 FF)).setCell (p := ⟨RZ, 1, none⟩) hzw (.slice av ls.length cv)
   clear z1 z2 z3 z4 f1 f2 f3 f4 f5 f6 f7 f8 VZ VF VQ VM SD BB
   generalize (W6.setCell ⟨RZ, 0, none⟩ (.int .i64 FF)).setCell ⟨RZ, 1, none⟩ (.slice av ls.length cv) = X1 at *
   obtain ⟨⟨f1, f2, f3, f4, f5, f6⟩, f7, f8⟩ := id VF1
   have VZ2 := VZ1.blk (w' := ((((X1).setCell ⟨RF, 0, none⟩ (.int .i64 0)).setCell ⟨RF, 1, none⟩ (.int .i64 0)).setCell ⟨RF, 2, none⟩ (.int .i64 0)).setCell ⟨RF, 3, none⟩ (.int .i64 0)) ((((Below.heap_setCell _ _ _ _ (by show _ ≠ RF; omega)).trans (Below.heap_setCell _ _ _ _ (by show _ ≠ RF; omega))).trans (Below.heap_setCell _ _ _ _ (by show _ ≠ RF; omega))).trans (Below.heap_setCell _ _ _ _ (by show _ ≠ RF; omega)))
   have VF2 := VF1.same (.int .i64 0) (.int .i64 0) (.int .i64 0) (.int .i64 0)
   have SD2 := ((((SD1).set f1 (limb_int _) (.inl (by omega)) (.int .i64 0)).set (cell_set_by f2 (by omega)) (limb_int _) (.inl (by omega)) (.int .i64 0)).set (cell_set_by (cell_set_by f3 (by omega)) (by omega)) (limb_int _) (.inl (by omega)) (.int .i64 0)).set (cell_set_by (cell_set_by (cell_set_by f7 (by omega)) (by omega)) (by omega)) (limb_int _) (.inl (by omega)) (.int .i64 0)
   have BB2 := ((((BB1).setCell (p := ⟨RF, 0, none⟩) (by show _ ≤ RF; omega) (.int .i64 0)).setCell (p := ⟨RF, 1, none⟩) (by show _ ≤ RF; omega) (.int .i64 0)).setCell (p := ⟨RF, 2, none⟩) (by show _ ≤ RF; omega) (.int .i64 0)).setCell (p := ⟨RF, 3, none⟩) (by show _ ≤ RF; omega) (.int .i64 0)
   clear f1 f2 f3 f4 f5 f6 f7 f8 VZ1 VF1 SD1 BB1
   generalize ((((X1).setCell ⟨RF, 0, none⟩ (.int .i64 0)).setCell ⟨RF, 1, none⟩ (.int .i64 0)).setCell ⟨RF, 2, none⟩ (.int .i64 0)).setCell ⟨RF, 3, none⟩ (.int .i64 0) = X2 at *
   obtain ⟨z1, z2, z3, z4⟩ := id VZ2
   obtain ⟨⟨f1, f2, f3, f4, f5, f6⟩, f7, f8⟩ := id VF2
   refine bodyPost_ret (v := .tuple #[.agg #[.int .i64 FF, .slice av ls.length cv], .agg #[.int .i64 0, .int .i64 0, .int .i64 0, .int .i64 0]]) (by simp [results, Tryz.results15, go_sem, z1, z2, f1, f2, f3, f7]) rfl ?_
   exact ⟨_, _, ls, _, _, _, _, rfl, (TMo.sd MO0.out HRM.out SD2).le (by omega), (by rw [← HFF.out, ← HLS.out]; exact Vp.fine HE.out (by rw [HFF.out, HLS.out]; exact HCC.out)), BB2⟩
  ·have e1 : (a == 0) = false := by simpa using ha
   have e2 : decide (a = 0) = false := by simpa using ha
   have HA : Hid (¬ a = 0) := ha
   clear hz ha
   go_wp2_with fail
   clear z1 z2 z3 z4 z5 z6 z7 z8 m1 m2 m3 m4 m5 m6 m7 m8 VZ VF VQ VM SD BB
   generalize (((w5.setCell ⟨RQ, 0, none⟩ (.int .i64 a)).setCell ⟨RQ, 1, none⟩ (.int .i64 0)).setCell ⟨RQ, 2, none⟩ (.int .i64 c)).setCell ⟨RQ, 3, none⟩ (.int .i64 d) = W6 at *
   have VZ := VZ_n
   have VF := VF_n
   have VQ := VQ_n
   have VM := VM_n
   have SD := SD_n
   have BB := BB_n
   clear VZ_n VF_n VQ_n VM_n SD_n BB_n
   have hDr : Below W6.heap.size W6 W6.drew := (Below.refl _ _).drew
   replace VZ := VZ.below hDr
   replace VF := VF.below hDr
   replace VQ := VQ.below hDr
   replace VM := VM.below hDr
   replace SD := SD.below hDr
   replace BB := BB.trans (hDr.mono BB.size)
   clear hDr
   refine wp_region_held_drew (S := (fun w' => w'.cell? ⟨RQ, 0, none⟩ = some (.int .i64 a) ∧ w'.cell? ⟨RQ, 1, none⟩ = some (.int .i64 0) ∧ w'.cell? ⟨RQ, 2, none⟩ = some (.int .i64 c) ∧ w'.cell? ⟨RQ, 3, none⟩ = some (.int .i64 d))) (by kernel_rfl) ?_ (fun hHeld => ?_)
   ·exact ⟨VQ.1.1, VQ.1.2.1, VQ.1.2.2.1, VQ.2.1⟩
   generalize W6.drew = W1 at *
   refine wpAnyH_take (i := 0) (v := ?_) (by simp only [xL1, xL2, xL3]; rfl) (by kernel_rfl) (by kernel_rfl) (by kernel_rfl) (by exact fun _ _ _ h => h) (Or.inl ⟨by rfl, ?_⟩) (by assumption) ?_
   rotate_left
   ·(intro w hSw; (try dsimp only at hSw); go_simp; (try with_reducible rfl))
   (try simp only [Act.put, xL4, xL5, xL6])
   refine wpAnyH_take (i := 1) (v := ?_) (by simp only [xL1, xL2, xL3]; rfl) (by kernel_rfl) (by kernel_rfl) (by kernel_rfl) (by exact fun _ _ _ h => h) (Or.inl ⟨by rfl, ?_⟩) (by assumption) ?_
   rotate_left
   ·(intro w hSw; (try dsimp only at hSw); go_simp; (try with_reducible rfl))
   (try simp only [Act.put, xL4, xL5, xL6])
   refine wpAnyH_ready (rs := [2]) (by kernel_rfl) (by simp) ?_
   refine AllReadyH.cons (by simp only [xL1, xL2, xL3]; rfl) (fun K hK => ?_) AllReadyH.nil
   obtain ⟨z1, z2, z3, z4⟩ := id VZ
   have VZ_n := VZ.same (.int .i64 0) (.slice none 0 0)
   have VF_n := VF.blk (w' := (W1.setCell ⟨RZ, 0, none⟩ (.int .i64 0)).setCell ⟨RZ, 1, none⟩ (.slice none 0 0)) ((Below.heap_setCell _ _ _ _ (by show _ ≠ RZ; omega)).trans (Below.heap_setCell _ _ _ _ (by show _ ≠ RZ; omega)))
   have VQ_n := VQ.blk (w' := (W1.setCell ⟨RZ, 0, none⟩ (.int .i64 0)).setCell ⟨RZ, 1, none⟩ (.slice none 0 0)) ((Below.heap_setCell _ _ _ _ (by show _ ≠ RZ; omega)).trans (Below.heap_setCell _ _ _ _ (by show _ ≠ RZ; omega)))
   have VM_n := VM.blk (w' := (W1.setCell ⟨RZ, 0, none⟩ (.int .i64 0)).setCell ⟨RZ, 1, none⟩ (.slice none 0 0)) ((Below.heap_setCell _ _ _ _ (by show _ ≠ RZ; omega)).trans (Below.heap_setCell _ _ _ _ (by show _ ≠ RZ; omega)))
   have SD_n := (SD.set z1 (limb_int _) (.inl (by omega)) (.int .i64 0)).set (cell_set_by z2 (by omega)) (limb_slice _ _ _) (.inl (by omega)) (.slice none 0 0)
   have BB_n := (BB.setCell (p := ⟨RZ, 0, none⟩) hzw (.int .i64 0)).setCell (p := ⟨RZ, 1, none⟩) hzw (.slice none 0 0)
   go_simp
   clear z1 z2 z3 z4 VZ VF VQ VM SD BB
   generalize (W1.setCell ⟨RZ, 0, none⟩ (.int .i64 0)).setCell ⟨RZ, 1, none⟩ (.slice none 0 0) = X1 at *
   have VZ := VZ_n
   have VF := VF_n
   have VQ := VQ_n
   have VM := VM_n
   have SD := SD_n
   have BB := BB_n
   clear VZ_n VF_n VQ_n VM_n SD_n BB_n
   refine hK.out _ _ ?_ (fun hH1 => ?_)
   ·exact ⟨VQ.1.1, VQ.1.2.1, VQ.1.2.2.1, VQ.2.1⟩
   clear hK K hHeld
   (try simp only [Act.put, xL4, xL5, xL6])
   refine wpAnyH_ready (rs := [3]) (by kernel_rfl) (by simp) ?_
   refine AllReadyH.cons (by simp only [xL1, xL2, xL3]; rfl) (fun K hK => ?_) AllReadyH.nil
   obtain ⟨⟨z1, z2, z3, z4, z5, z6⟩, z7, z8⟩ := id VF
   have VF_n := VF.same (.int .i64 a) (.int .i64 0) (.int .i64 c) (.int .i64 d)
   have VZ_n := VZ.blk (w' := ((((X1).setCell ⟨RF, 0, none⟩ (.int .i64 a)).setCell ⟨RF, 1, none⟩ (.int .i64 0)).setCell ⟨RF, 2, none⟩ (.int .i64 c)).setCell ⟨RF, 3, none⟩ (.int .i64 d)) ((((Below.heap_setCell _ _ _ _ (by show _ ≠ RF; omega)).trans (Below.heap_setCell _ _ _ _ (by show _ ≠ RF; omega))).trans (Below.heap_setCell _ _ _ _ (by show _ ≠ RF; omega))).trans (Below.heap_setCell _ _ _ _ (by show _ ≠ RF; omega)))
   have VQ_n := VQ.blk (w' := ((((X1).setCell ⟨RF, 0, none⟩ (.int .i64 a)).setCell ⟨RF, 1, none⟩ (.int .i64 0)).setCell ⟨RF, 2, none⟩ (.int .i64 c)).setCell ⟨RF, 3, none⟩ (.int .i64 d)) ((((Below.heap_setCell _ _ _ _ (by show _ ≠ RF; omega)).trans (Below.heap_setCell _ _ _ _ (by show _ ≠ RF; omega))).trans (Below.heap_setCell _ _ _ _ (by show _ ≠ RF; omega))).trans (Below.heap_setCell _ _ _ _ (by show _ ≠ RF; omega)))
   have VM_n := VM.blk (w' := ((((X1).setCell ⟨RF, 0, none⟩ (.int .i64 a)).setCell ⟨RF, 1, none⟩ (.int .i64 0)).setCell ⟨RF, 2, none⟩ (.int .i64 c)).setCell ⟨RF, 3, none⟩ (.int .i64 d)) ((((Below.heap_setCell _ _ _ _ (by show _ ≠ RF; omega)).trans (Below.heap_setCell _ _ _ _ (by show _ ≠ RF; omega))).trans (Below.heap_setCell _ _ _ _ (by show _ ≠ RF; omega))).trans (Below.heap_setCell _ _ _ _ (by show _ ≠ RF; omega)))
   have SD_n := ((((SD).set z1 (limb_int _) (.inl (by omega)) (.int .i64 a)).set (cell_set_by z2 (by omega)) (limb_int _) (.inl (by omega)) (.int .i64 0)).set (cell_set_by (cell_set_by z3 (by omega)) (by omega)) (limb_int _) (.inl (by omega)) (.int .i64 c)).set (cell_set_by (cell_set_by (cell_set_by z7 (by omega)) (by omega)) (by omega)) (limb_int _) (.inl (by omega)) (.int .i64 d)
   have BB_n := ((((BB).setCell (p := ⟨RF, 0, none⟩) (by show _ ≤ RF; omega) (.int .i64 a)).setCell (p := ⟨RF, 1, none⟩) (by show _ ≤ RF; omega) (.int .i64 0)).setCell (p := ⟨RF, 2, none⟩) (by show _ ≤ RF; omega) (.int .i64 c)).setCell (p := ⟨RF, 3, none⟩) (by show _ ≤ RF; omega) (.int .i64 d)
   go_simp
   clear z1 z2 z3 z4 z5 z6 z7 z8 VZ VF VQ VM SD BB
   generalize ((((X1).setCell ⟨RF, 0, none⟩ (.int .i64 a)).setCell ⟨RF, 1, none⟩ (.int .i64 0)).setCell ⟨RF, 2, none⟩ (.int .i64 c)).setCell ⟨RF, 3, none⟩ (.int .i64 d) = X2 at *
   have VZ := VZ_n
   have VF := VF_n
   have VQ := VQ_n
   have VM := VM_n
   have SD := SD_n
   have BB := BB_n
   clear VZ_n VF_n VQ_n VM_n SD_n BB_n
   refine hK.out _ _ ?_ (fun hH2 => ?_)
   ·exact ⟨VQ.1.1, VQ.1.2.1, VQ.1.2.2.1, VQ.2.1⟩
   clear hK K hH1
   (try simp only [Act.put, xL4, xL5, xL6])
   refine wpAnyH_done (by kernel_rfl) ?_ _
   clear hH2
   obtain ⟨z1, z2, z3, z4⟩ := id VZ
   obtain ⟨⟨f1, f2, f3, f4, f5, f6⟩, f7, f8⟩ := id VF
   go_wp2_with fail
   (try simp only [Exit.inBlock, Exit.then])
   refine bodyPost_ret (v := .tuple #[.agg #[.int .i64 0, .slice none 0 0], .agg #[.int .i64 a, .int .i64 0, .int .i64 c, .int .i64 d]]) (by simp [results, Tryz.results15, go_sem, z1, z2, f1, f2, f3, f7]) rfl ?_
   exact ⟨_, _, [], _, _, _, _, rfl, TMo.nil _ _, (Vp.fault HE.out a c d HA.out (by rw [HFF.out, HLS.out]; exact HCC.out)), BB⟩
 ·have d1 : (E == 0) = false := by simpa using he
  have d2 : decide (E = 0) = false := by simpa using he
  have HE : Hid (¬ mrE s = 0) := fun h => he (by rw [← HEE.out, h]; rfl)
  clear he hFF hEE hAA
  go_wp2_with fail
  rw [← hW3]
  rw [← hW4]
  obtain ⟨RQ, hRQ⟩ : ∃ q, w1.heap.size + 1 = q := ⟨_, rfl⟩
  obtain ⟨RM_, hRM⟩ : ∃ q, w1.heap.size = q := ⟨_, rfl⟩
  rw [hRQ] at VQ
  rw [hRQ]
  have MO0 : Hid (TMo (RF + 1) w1 (.slice av ls.length cv) ls) := MO1
  have HRM : Hid (w1.heap.size ≤ RM_) := (show _ ≤ _ by omega)
  rw [hRM] at VM hF2 SD
  clear MO1
  rw [hRM]
  have hFM : RF < RM_ := hF2
  have hMQ : RM_ < RQ := by omega
  clear q1 q2 q3 q4 f1 f2 f3 f4 f5 f6 f7 f8 hW3 hW4 hS3 hS4 hL3 hL4 BL hRQ hRM
  have hDr : Below W4.heap.size W4 W4.drew := (Below.refl _ _).drew
  replace VZ := VZ.below hDr
  replace VF := VF.below hDr
  replace VQ := VQ.below hDr
  replace VM := VM.below hDr
  replace SD := SD.below hDr
  replace BB := BB.trans (hDr.mono BB.size)
  clear hDr
  refine wp_region_held_drew (S := (fun w' => w'.cell? ⟨RQ, 0, none⟩ = some (.int .i64 E) ∧ w'.cell? ⟨RQ, 1, none⟩ = some (.int .i64 A) ∧ w'.cell? ⟨RQ, 2, none⟩ = some (.int .i64 0) ∧ w'.cell? ⟨RQ, 3, none⟩ = some (.int .i64 0))) (by kernel_rfl) ?_ (fun hHeld => ?_)
  ·exact ⟨VQ.1.1, VQ.1.2.1, VQ.1.2.2.1, VQ.2.1⟩
  generalize W4.drew = W1 at *
  refine wpAnyH_take (i := 0) (v := ?_) (by simp only [xL1, xL2, xL3]; rfl) (by kernel_rfl) (by kernel_rfl) (by kernel_rfl) (by exact fun _ _ _ h => h) (Or.inl ⟨by rfl, ?_⟩) (by assumption) ?_
  rotate_left
  ·(intro w hSw; (try dsimp only at hSw); go_simp; (try with_reducible rfl))
  (try simp only [Act.put, xL4, xL5, xL6])
  refine wpAnyH_take (i := 1) (v := ?_) (by simp only [xL1, xL2, xL3]; rfl) (by kernel_rfl) (by kernel_rfl) (by kernel_rfl) (by exact fun _ _ _ h => h) (Or.inl ⟨by rfl, ?_⟩) (by assumption) ?_
  rotate_left
  ·(intro w hSw; (try dsimp only at hSw); go_simp; (try with_reducible rfl))
  (try simp only [Act.put, xL4, xL5, xL6])
  refine wpAnyH_ready (rs := [2]) (by kernel_rfl) (by simp) ?_
  refine AllReadyH.cons (by simp only [xL1, xL2, xL3]; rfl) (fun K hK => ?_) AllReadyH.nil
  obtain ⟨z1, z2, z3, z4⟩ := id VZ
  have VZ_n := VZ.same (.int .i64 0) (.slice none 0 0)
  have VF_n := VF.blk (w' := (W1.setCell ⟨RZ, 0, none⟩ (.int .i64 0)).setCell ⟨RZ, 1, none⟩ (.slice none 0 0)) ((Below.heap_setCell _ _ _ _ (by show _ ≠ RZ; omega)).trans (Below.heap_setCell _ _ _ _ (by show _ ≠ RZ; omega)))
  have VQ_n := VQ.blk (w' := (W1.setCell ⟨RZ, 0, none⟩ (.int .i64 0)).setCell ⟨RZ, 1, none⟩ (.slice none 0 0)) ((Below.heap_setCell _ _ _ _ (by show _ ≠ RZ; omega)).trans (Below.heap_setCell _ _ _ _ (by show _ ≠ RZ; omega)))
  have VM_n := VM.blk (w' := (W1.setCell ⟨RZ, 0, none⟩ (.int .i64 0)).setCell ⟨RZ, 1, none⟩ (.slice none 0 0)) ((Below.heap_setCell _ _ _ _ (by show _ ≠ RZ; omega)).trans (Below.heap_setCell _ _ _ _ (by show _ ≠ RZ; omega)))
  have SD_n := (SD.set z1 (limb_int _) (.inl (by omega)) (.int .i64 0)).set (cell_set_by z2 (by omega)) (limb_slice _ _ _) (.inl (by omega)) (.slice none 0 0)
  have BB_n := (BB.setCell (p := ⟨RZ, 0, none⟩) hzw (.int .i64 0)).setCell (p := ⟨RZ, 1, none⟩) hzw (.slice none 0 0)
  go_simp
  clear z1 z2 z3 z4 VZ VF VQ VM SD BB
  generalize (W1.setCell ⟨RZ, 0, none⟩ (.int .i64 0)).setCell ⟨RZ, 1, none⟩ (.slice none 0 0) = X1 at *
  have VZ := VZ_n
  have VF := VF_n
  have VQ := VQ_n
  have VM := VM_n
  have SD := SD_n
  have BB := BB_n
  clear VZ_n VF_n VQ_n VM_n SD_n BB_n
  refine hK.out _ _ ?_ (fun hH1 => ?_)
  ·exact ⟨VQ.1.1, VQ.1.2.1, VQ.1.2.2.1, VQ.2.1⟩
  clear hK K hHeld
  (try simp only [Act.put, xL4, xL5, xL6])
  refine wpAnyH_ready (rs := [3]) (by kernel_rfl) (by simp) ?_
  refine AllReadyH.cons (by simp only [xL1, xL2, xL3]; rfl) (fun K hK => ?_) AllReadyH.nil
  obtain ⟨⟨z1, z2, z3, z4, z5, z6⟩, z7, z8⟩ := id VF
  have VF_n := VF.same (.int .i64 E) (.int .i64 A) (.int .i64 0) (.int .i64 0)
  have VZ_n := VZ.blk (w' := ((((X1).setCell ⟨RF, 0, none⟩ (.int .i64 E)).setCell ⟨RF, 1, none⟩ (.int .i64 A)).setCell ⟨RF, 2, none⟩ (.int .i64 0)).setCell ⟨RF, 3, none⟩ (.int .i64 0)) ((((Below.heap_setCell _ _ _ _ (by show _ ≠ RF; omega)).trans (Below.heap_setCell _ _ _ _ (by show _ ≠ RF; omega))).trans (Below.heap_setCell _ _ _ _ (by show _ ≠ RF; omega))).trans (Below.heap_setCell _ _ _ _ (by show _ ≠ RF; omega)))
  have VQ_n := VQ.blk (w' := ((((X1).setCell ⟨RF, 0, none⟩ (.int .i64 E)).setCell ⟨RF, 1, none⟩ (.int .i64 A)).setCell ⟨RF, 2, none⟩ (.int .i64 0)).setCell ⟨RF, 3, none⟩ (.int .i64 0)) ((((Below.heap_setCell _ _ _ _ (by show _ ≠ RF; omega)).trans (Below.heap_setCell _ _ _ _ (by show _ ≠ RF; omega))).trans (Below.heap_setCell _ _ _ _ (by show _ ≠ RF; omega))).trans (Below.heap_setCell _ _ _ _ (by show _ ≠ RF; omega)))
  have VM_n := VM.blk (w' := ((((X1).setCell ⟨RF, 0, none⟩ (.int .i64 E)).setCell ⟨RF, 1, none⟩ (.int .i64 A)).setCell ⟨RF, 2, none⟩ (.int .i64 0)).setCell ⟨RF, 3, none⟩ (.int .i64 0)) ((((Below.heap_setCell _ _ _ _ (by show _ ≠ RF; omega)).trans (Below.heap_setCell _ _ _ _ (by show _ ≠ RF; omega))).trans (Below.heap_setCell _ _ _ _ (by show _ ≠ RF; omega))).trans (Below.heap_setCell _ _ _ _ (by show _ ≠ RF; omega)))
  have SD_n := ((((SD).set z1 (limb_int _) (.inl (by omega)) (.int .i64 E)).set (cell_set_by z2 (by omega)) (limb_int _) (.inl (by omega)) (.int .i64 A)).set (cell_set_by (cell_set_by z3 (by omega)) (by omega)) (limb_int _) (.inl (by omega)) (.int .i64 0)).set (cell_set_by (cell_set_by (cell_set_by z7 (by omega)) (by omega)) (by omega)) (limb_int _) (.inl (by omega)) (.int .i64 0)
  have BB_n := ((((BB).setCell (p := ⟨RF, 0, none⟩) (by show _ ≤ RF; omega) (.int .i64 E)).setCell (p := ⟨RF, 1, none⟩) (by show _ ≤ RF; omega) (.int .i64 A)).setCell (p := ⟨RF, 2, none⟩) (by show _ ≤ RF; omega) (.int .i64 0)).setCell (p := ⟨RF, 3, none⟩) (by show _ ≤ RF; omega) (.int .i64 0)
  go_simp
  clear z1 z2 z3 z4 z5 z6 z7 z8 VZ VF VQ VM SD BB
  generalize ((((X1).setCell ⟨RF, 0, none⟩ (.int .i64 E)).setCell ⟨RF, 1, none⟩ (.int .i64 A)).setCell ⟨RF, 2, none⟩ (.int .i64 0)).setCell ⟨RF, 3, none⟩ (.int .i64 0) = X2 at *
  have VZ := VZ_n
  have VF := VF_n
  have VQ := VQ_n
  have VM := VM_n
  have SD := SD_n
  have BB := BB_n
  clear VZ_n VF_n VQ_n VM_n SD_n BB_n
  refine hK.out _ _ ?_ (fun hH2 => ?_)
  ·exact ⟨VQ.1.1, VQ.1.2.1, VQ.1.2.2.1, VQ.2.1⟩
  clear hK K hH1
  (try simp only [Act.put, xL4, xL5, xL6])
  refine wpAnyH_done (by kernel_rfl) ?_ _
  clear hH2
  obtain ⟨z1, z2, z3, z4⟩ := id VZ
  obtain ⟨⟨f1, f2, f3, f4, f5, f6⟩, f7, f8⟩ := id VF
  go_wp2_with fail
  (try simp only [Exit.inBlock, Exit.then])
  refine bodyPost_ret (v := .tuple #[.agg #[.int .i64 0, .slice none 0 0], .agg #[.int .i64 E, .int .i64 A, .int .i64 0, .int .i64 0]]) (by simp [results, Tryz.results15, go_sem, z1, z2, f1, f2, f3, f7]) rfl ?_
  exact ⟨_, _, [], _, _, _, _, rfl, TMo.nil _ _, (by rw [← HEE.out, ← HAA.out]; exact Vp.bad HE.out), BB⟩


end Go.Proofs.YthkamfddbiheoaaGreatDoor
