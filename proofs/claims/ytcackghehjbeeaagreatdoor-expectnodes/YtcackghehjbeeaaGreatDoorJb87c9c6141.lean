/-
  Texts of mine, joined: what lies beneath the statement.
-/
import Derived.Test.YtcackghehjbeeaaGreatDoorJ28ba950bd3
import Derived.Test.YtcackghehjbeeaaGreatDoorJ104ee8f4d2
import Derived.Test.YtcackghehjbeeaaGreatDoorJ952dd77c35
import Derived.Test.YtcackghehjbeeaaGreatDoorJa9f7bba195
namespace Go.Proofs.YtcackghehjbeeaaGreatDoor
open Go.RowKit
set_option linter.unusedVariables false
set_option linter.unusedSimpArgs false

/-- An array of numbers of which the first k are set. -/
def NArr (w : World) (g n k : Nat) (p q : Nat → Rat) (L : Nat) : Prop := ∃ el, Arr3 w g n el ∧ (∀ j, j < n → j < k → RepQ w (elv el j) (p j)) ∧ ∀ j, j < n → ¬ j < k → RatAt w (elv el j) (q j) L
theorem NArr.below {w w' : World} {g n k : Nat} {p q : Nat → Rat} {L : Nat} (h : NArr w g n k p q L) (hb : Below w.heap.size w w') : NArr w' g n k p q L := let ⟨el, a, b, c⟩ := h; ⟨el, a.below hb, fun j h1 h2 => (b j h1 h2).below hb, fun j h1 h2 => (c j h1 h2).below hb⟩
theorem GArr.narr {w : World} {g n : Nat} {q : Nat → Rat} {L : Nat} (h : GArr w g n q L) (p : Nat → Rat) : NArr w g n 0 p q L := let ⟨el, a, b⟩ := h; ⟨el, a, fun j _ h => by omega, fun j h1 _ => b j h1⟩
theorem NArr.put {w : World} {g n k : Nat} {p q : Nat → Rat} {L : Nat} (h : NArr w g n k p q L) (hk : k < n) {pp : Bool} {a b : Option Addr} {n1 c m d : Nat} (hr : RepQ w (.agg #[.bool pp, .slice a n1 c, .slice b m d]) (p k)) : ∃ u0 u1 u2, w.cell? ⟨g, k * 3, none⟩ = some u0 ∧ w.cell? ⟨g, k * 3 + 1, none⟩ = some u1 ∧ w.cell? ⟨g, k * 3 + 2, none⟩ = some u2 ∧ w.frozen? ⟨g, k * 3, none⟩ = false ∧ w.frozen? ⟨g, k * 3 + 1, none⟩ = false ∧ w.frozen? ⟨g, k * 3 + 2, none⟩ = false ∧
  NArr (((w.setCell ⟨g, k * 3, none⟩ (.bool pp)).setCell ⟨g, k * 3 + 1, none⟩ (.slice a n1 c)).setCell ⟨g, k * 3 + 2, none⟩ (.slice b m d)) g n (k + 1) p q L := by
 obtain ⟨el, A, R1, R2⟩ := h
 obtain ⟨A2, K2⟩ := A.set k hk (.bool pp) (.slice a n1 c) (.slice b m d) (num_bool _) (num_slice _ _ _) (num_slice _ _ _)
 refine ⟨_, _, _, A.1 k hk 0 (by omega), A.1 k hk 1 (by omega), A.1 k hk 2 (by omega), A.2.1 k hk 0 (by omega), A.2.1 k hk 1 (by omega), A.2.1 k hk 2 (by omega), _, A2, fun j hj h1 => ?_, fun j hj h1 => ?_⟩
 ·by_cases e : j = k
  ·subst e
   have := hr.keep K2
   simpa [elv, upd3] using this
  ·have := (R1 j hj (by omega)).keep K2
   simp only [elv, upd3_other el k j _ _ _ e] at *
   exact this
 ·have e : j ≠ k := by omega
  have := (R2 j hj (by omega)).keep K2
  simp only [elv, upd3_other el k j _ _ _ e] at *
  exact this
theorem NArr.at {w : World} {g n k : Nat} {p q : Nat → Rat} {L : Nat} (h : NArr w g n k p q L) (hk : k < n) : ∃ p1 ao m d bo k1 e, w.cell? ⟨g, k * 3, none⟩ = some (.bool p1) ∧ w.cell? ⟨g, k * 3 + 1, none⟩ = some (.slice ao m d) ∧ w.cell? ⟨g, k * 3 + 2, none⟩ = some (.slice bo k1 e) ∧ RatAt w (.agg #[.bool p1, .slice ao m d, .slice bo k1 e]) (q k) L := by
 obtain ⟨el, A, R1, R2⟩ := h
 have hr := R2 k hk (by omega)
 obtain ⟨p1, ao, m, d, bo, k1, e, he⟩ := hr.open
 have h0 := A.1 k hk 0 (by omega)
 have h1 := A.1 k hk 1 (by omega)
 have h2 := A.1 k hk 2 (by omega)
 unfold elv at he hr
 simp only [Value.agg.injEq, Array.mk.injEq, List.cons.injEq, and_true] at he
 obtain ⟨e0, e1, e2⟩ := he
 rw [e0] at h0
 rw [e1] at h1
 rw [e2] at h2
 rw [e0, e1, e2] at hr
 exact ⟨p1, ao, m, d, bo, k1, e, h0, h1, h2, hr⟩
theorem NArr.row {w : World} {g n : Nat} {p q : Nat → Rat} {L : Nat} (h : NArr w g n n p q L) (hn : n ≤ 100000) : FRow w (.slice (some ⟨g, 0, none⟩) n n) n p :=
 let ⟨el, a, b, c⟩ := h; ⟨el, a.row n n (Nat.le_refl _) (Nat.le_refl _) (by omega), fun j hj => b j hj hj⟩
/-- The mean of the leaves below a node. -/
def meanN (t : Nat → Nd) (n i : Nat) : Rat := ws t n i / (t i).cov


set_option maxRecDepth 100000 in
set_option maxHeartbeats 2000000 in
theorem nodes_no (F : Int) (v : Value) (n : Nat) (t : Nat → Nd) (L C : Nat) (w : World) (hv : TRow w v n t L) (ht : Tab w) (hL : 1 ≤ L) (hC : 2 * L + 2 ≤ C) (hCn : 255 * C ≤ 10000) (hw : mayB F 1 (fun _ => n) (fun _ => t) = false) :
  Calls Tryz.prog 20 #[v, .int .i64 F] w fun e w' => e = .returned (.tuple #[.slice none 0 0, .int .i64 1]) ∧ Below w.heap.size w w' := by
 obtain ⟨ao, c, rfl, hnc, hc63⟩ := hv.open
 have BB : Below w.heap.size w w := Below.refl _ _
 go_enter Tryz.func20, Tryz.ntmps20
 go_wp2_with fail
 refine (tree_may F _ n t L _ hv ht hL (by omega)).mono ?_
 rintro e w1 ⟨rfl, b1⟩
 have HT0 : Hid (TRow w (.slice ao n c) n t L) := hv
 have HB0 : Hid (Tab w) := ht
 clear hv ht
 replace BB := BB.trans (b1.mono BB.size)
 clear b1
 rw [hw]
 go_wp2
 go_ret2
 exact ⟨rfl, BB⟩


set_option maxRecDepth 100000 in
set_option maxHeartbeats 16000000 in
theorem nodes_yes (F : Int) (v : Value) (n : Nat) (t : Nat → Nd) (L C : Nat) (w : World) (hv : TRow w v n t L) (ht : Tab w) (hL : 1 ≤ L) (hC : 2 * L + 2 ≤ C) (hCn : 255 * C ≤ 10000) (hw : mayB F 1 (fun _ => n) (fun _ => t) = true) :
  Calls Tryz.prog 20 #[v, .int .i64 F] w fun e w' => ∃ u, e = .returned (.tuple #[u, .int .i64 0]) ∧ FRow w' u n (meanN t n) ∧ Below w.heap.size w w' := by
 obtain ⟨ao, c, rfl, hnc, hc63⟩ := hv.open
 have BB : Below w.heap.size w w := Below.refl _ _
 go_enter Tryz.func20, Tryz.ntmps20
 go_wp2_with fail
 refine (tree_may F _ n t L _ hv ht hL (by omega)).mono ?_
 rintro e w1 ⟨rfl, b1⟩
 have HT0 : Hid (TRow w (.slice ao n c) n t L) := hv
 have HB0 : Hid (Tab w) := ht
 clear hv ht
 replace BB := BB.trans (b1.mono BB.size)
 clear b1
 rw [hw]
 obtain ⟨_, hF64, _, hmy⟩ := mayB_may hw
 have HM : Hid (MayT F t n) := hmy 0 (by omega)
 clear hmy hw
 have hn0 : 0 < n := HM.out.pos
 have hn255 : n ≤ 255 := HM.out.few
 have hnC : n * C ≤ 10000 := Nat.le_trans (Nat.mul_le_mul_right C hn255) hCn
 have hNC : 1 ≤ n * C := Nat.le_trans (by omega) (Nat.mul_le_mul hn0 hC)
 have hLC : L ≤ n * C := Nat.le_trans (by omega) (Nat.mul_le_mul hn0 hC)
 go_wp2_with fail
 refine (sums_at F _ n t L C _ (HT0.out.below BB) HM.out hF64 (HB0.out.below BB) hL hC (by omega)).mono ?_
 rintro e w2 ⟨G, rfl, hG, GA, b2⟩
 have hGB : w.heap.size ≤ G := Nat.le_trans BB.size hG
 replace BB := BB.trans (b2.mono BB.size)
 have NA := GA.narr (meanN t n)
 clear b2 GA
 go_wp2
 go_loopw [17] (fun vi wr => ∃ i : Nat, i ≤ n ∧ vi = .int .i64 (i : Int) ∧ NArr wr G n i (meanN t n) (ws t n) (n * C) ∧ Below w.heap.size w wr) (fun vi _ => n - (intOf vi).toNat)
 case atStart => exact ⟨0, by omega, rfl, NA, BB⟩
 case round =>
  clear NA BB hG
  obtain ⟨i, hi, rfl, NA, BB⟩ := hrel
  by_cases hlt : i < n
  ·have g1 : (i : Int) < (n : Int) := by omega
   have g0 : (0 : Int) ≤ (i : Int) := by omega
   have hcn : (t i).cov ≠ 0 := fun e => by have := HM.out.cov i hlt; rw [e] at this; exact absurd this (by decide)
   have HMV : Hid (meanN t n i = ws t n i / (t i).cov) := rfl
   obtain ⟨b9, off9, cc9, p1, a1, n1, c1, b1, m1, d1, p2, a2, n2, c2, b2, m2, d2, p3, a3, n3, c3, b3, m3, d3, hvv, hcc9, hc6, NN, r1, r2, rc, i1, i2, i3⟩ := (HT0.out.below BB).at hlt
   cases hvv
   have ht := HB0.out.below BB
   clear r1 r2 i1 i2 i3
   obtain ⟨N_0, N_1, N_2, N_3, N_4, N_5, N_6, N_7, N_8, N_9, N_10, N_11, N_12, N_13⟩ := id NN
   obtain ⟨W51, hW51, hS51, hL51, VN, FN⟩ := V14.lay wr 58 (.bool (t i).leaf) (.int .i64 (t i).feat) (.bool p1) (.slice a1 n1 c1) (.slice b1 m1 d1) (.int .i64 (t i).left) (.int .i64 (t i).right) (.bool (t i).miss) (.bool p2) (.slice a2 n2 c2) (.slice b2 m2 d2) (.bool p3) (.slice a3 n3 c3) (.slice b3 m3 d3)
   replace NA := NA.below hL51
   replace ht := ht.below hL51
   replace rc := rc.below hL51
   replace BB := BB.trans (hL51.mono BB.size)
   clear hL51
   obtain ⟨V_0, V_1, V_2, V_3, V_4, V_5, V_6, V_7, V_8, V_9, V_10, V_11, V_12, V_13⟩ := id VN
   rw [hW51] at V_0 V_1 V_2 V_3 V_4 V_5 V_6 V_7 V_8 V_9 V_10 V_11 V_12 V_13
   go_wp2
   clear V_0 V_1 V_2 V_3 V_4 V_5 V_6 V_7 V_8 V_9 V_10 V_11 V_12 V_13
   clear N_0 N_1 N_2 N_3 N_4 N_5 N_6 N_7 N_8 N_9 N_10 N_11 N_12 N_13
   rw [← hW51]
   generalize wr.heap.size = R51 at *
   clear hW51 hS51
   obtain ⟨p5, a5, n5, c5, b5, m5, d5, e50, e51, e52, R5⟩ := NA.at hlt
   have X5 : E3 W51 G (i * 3) _ _ _ := ⟨e50, e51, e52⟩
   clear e50 e51 e52
   refine wp_region_until 9 #[true, true, true, true, true, true, true, true, true, false, false] (fun aF lsd a' w' => ∃ vu0 vu1 vu2 vu3 vu4 vu5 vu6 vu7 vu8 : Value, a' = ((((((((aF.put (some 22) vu0).put (some 23) vu1).put (some 24) vu2).put (some 25) vu3).put (some 26) vu4).put (some 27) vu5).put (some 28) vu6).put (some 29) vu7).put (some 30) vu8 ∧ Below W51.heap.size W51 w' ∧ (lsd.getD 0 false = true → vu0 = .slice (some ⟨G, 0, none⟩) n n) ∧ (lsd.getD 1 false = true → vu1 = .int .i64 (i : Int)) ∧ (lsd.getD 2 false = true → vu2 = .slice (some ⟨G, 0, none⟩) n n) ∧ (lsd.getD 3 false = true → vu3 = .int .i64 (i : Int)) ∧ (lsd.getD 4 false = true → vu4 = .pointer (some ⟨G, i * 3, none⟩)) ∧ (lsd.getD 5 false = true → vu5 = .agg #[.bool p5, .slice a5 n5 c5, .slice b5 m5 d5]) ∧ (lsd.getD 6 false = true → vu6 = .pointer (some ⟨R51, 11, none⟩)) ∧ (lsd.getD 7 false = true → vu7 = .agg #[.bool p3, .slice a3 n3 c3, .slice b3 m3 d3]) ∧ (lsd.getD 8 false = true → RepQ w' vu8 (ws t n i / (t i).cov))) (by kernel_rfl) (by decide) (by kernel_rfl) (by rfl) (by kernel_rfl) ?_ ?_ ?_
   ·exact ⟨_, _, _, _, _, _, _, _, _, by simp only [Act.put, xL4, xL5, xL6]; rfl, (Below.refl _ _).drew, fun h => absurd h (fun h => mark_none h), fun h => absurd h (fun h => mark_none h), fun h => absurd h (fun h => mark_none h), fun h => absurd h (fun h => mark_none h), fun h => absurd h (fun h => mark_none h), fun h => absurd h (fun h => mark_none h), fun h => absurd h (fun h => mark_none h), fun h => absurd h (fun h => mark_none h), fun h => absurd h (fun h => mark_none h)⟩
   ·rintro lsd au wn iu hszu ⟨vu0, vu1, vu2, vu3, vu4, vu5, vu6, vu7, vu8, rfl, hbu, fu0, fu1, fu2, fu3, fu4, fu5, fu6, fu7, fu8⟩ himu hru
    rcases (show iu = 0 ∨ iu = 1 ∨ iu = 2 ∨ iu = 3 ∨ iu = 4 ∨ iu = 5 ∨ iu = 6 ∨ iu = 7 ∨ iu = 8 by omega) with rfl | rfl | rfl | rfl | rfl | rfl | rfl | rfl | rfl
    ·refine wpOp_shut (by rfl) (fun K hK => ?_)
     simp only [Act.put, xL4, xL5, xL6]
     go_simp
     exact hK.out _ _ ⟨(.slice (some ⟨G, 0, none⟩) n n), vu1, vu2, vu3, vu4, vu5, vu6, vu7, vu8, by simp only [Act.put, xL4, xL5, xL6], hbu, fun _ => rfl, fun h => fu1 (mark_of (by decide) h), fun h => fu2 (mark_of (by decide) h), fun h => fu3 (mark_of (by decide) h), fun h => fu4 (mark_of (by decide) h), fun h => fu5 (mark_of (by decide) h), fun h => fu6 (mark_of (by decide) h), fun h => fu7 (mark_of (by decide) h), fun h => fu8 (mark_of (by decide) h)⟩
    ·refine wpOp_shut (by rfl) (fun K hK => ?_)
     simp only [Act.put, xL4, xL5, xL6]
     go_simp
     exact hK.out _ _ ⟨vu0, (.int .i64 (i : Int)), vu2, vu3, vu4, vu5, vu6, vu7, vu8, by simp only [Act.put, xL4, xL5, xL6], hbu, fun h => fu0 (mark_of (by decide) h), fun _ => rfl, fun h => fu2 (mark_of (by decide) h), fun h => fu3 (mark_of (by decide) h), fun h => fu4 (mark_of (by decide) h), fun h => fu5 (mark_of (by decide) h), fun h => fu6 (mark_of (by decide) h), fun h => fu7 (mark_of (by decide) h), fun h => fu8 (mark_of (by decide) h)⟩
    ·refine wpOp_shut (by rfl) (fun K hK => ?_)
     simp only [Act.put, xL4, xL5, xL6]
     go_simp
     exact hK.out _ _ ⟨vu0, vu1, (.slice (some ⟨G, 0, none⟩) n n), vu3, vu4, vu5, vu6, vu7, vu8, by simp only [Act.put, xL4, xL5, xL6], hbu, fun h => fu0 (mark_of (by decide) h), fun h => fu1 (mark_of (by decide) h), fun _ => rfl, fun h => fu3 (mark_of (by decide) h), fun h => fu4 (mark_of (by decide) h), fun h => fu5 (mark_of (by decide) h), fun h => fu6 (mark_of (by decide) h), fun h => fu7 (mark_of (by decide) h), fun h => fu8 (mark_of (by decide) h)⟩
    ·refine wpOp_shut (by rfl) (fun K hK => ?_)
     simp only [Act.put, xL4, xL5, xL6]
     go_simp
     exact hK.out _ _ ⟨vu0, vu1, vu2, (.int .i64 (i : Int)), vu4, vu5, vu6, vu7, vu8, by simp only [Act.put, xL4, xL5, xL6], hbu, fun h => fu0 (mark_of (by decide) h), fun h => fu1 (mark_of (by decide) h), fun h => fu2 (mark_of (by decide) h), fun _ => rfl, fun h => fu4 (mark_of (by decide) h), fun h => fu5 (mark_of (by decide) h), fun h => fu6 (mark_of (by decide) h), fun h => fu7 (mark_of (by decide) h), fun h => fu8 (mark_of (by decide) h)⟩
    ·have eu2 := fu2 (dep_of 2 hru rfl (by kernel_rfl))
     have eu3 := fu3 (dep_of 3 hru rfl (by kernel_rfl))
     replace eu2 := eu2.symm
     subst eu2
     replace eu3 := eu3.symm
     subst eu3
     refine wpOp_shut (by rfl) (fun K hK => ?_)
     simp only [Act.put, xL4, xL5, xL6]
     go_simp
     exact hK.out _ _ ⟨vu0, vu1, (.slice (some ⟨G, 0, none⟩) n n), (.int .i64 (i : Int)), (.pointer (some ⟨G, i * 3, none⟩)), vu5, vu6, vu7, vu8, by simp only [Act.put, xL4, xL5, xL6], hbu, fun h => fu0 (mark_of (by decide) h), fun h => fu1 (mark_of (by decide) h), fun _ => rfl, fun _ => rfl, fun _ => rfl, fun h => fu5 (mark_of (by decide) h), fun h => fu6 (mark_of (by decide) h), fun h => fu7 (mark_of (by decide) h), fun h => fu8 (mark_of (by decide) h)⟩
    ·have eu4 := fu4 (dep_of 4 hru rfl (by kernel_rfl))
     replace eu4 := eu4.symm
     subst eu4
     refine wpOp_shut (by rfl) (fun K hK => ?_)
     simp only [Act.put, xL4, xL5, xL6]
     obtain ⟨X5_0, X5_1, X5_2⟩ := X5.below hbu
     go_simp
     exact hK.out _ _ ⟨vu0, vu1, vu2, vu3, (.pointer (some ⟨G, i * 3, none⟩)), (.agg #[.bool p5, .slice a5 n5 c5, .slice b5 m5 d5]), vu6, vu7, vu8, by simp only [Act.put, xL4, xL5, xL6], hbu, fun h => fu0 (mark_of (by decide) h), fun h => fu1 (mark_of (by decide) h), fun h => fu2 (mark_of (by decide) h), fun h => fu3 (mark_of (by decide) h), fun _ => rfl, fun _ => rfl, fun h => fu6 (mark_of (by decide) h), fun h => fu7 (mark_of (by decide) h), fun h => fu8 (mark_of (by decide) h)⟩
    ·refine wpOp_shut (by rfl) (fun K hK => ?_)
     simp only [Act.put, xL4, xL5, xL6]
     go_simp
     exact hK.out _ _ ⟨vu0, vu1, vu2, vu3, vu4, vu5, (.pointer (some ⟨R51, 11, none⟩)), vu7, vu8, by simp only [Act.put, xL4, xL5, xL6], hbu, fun h => fu0 (mark_of (by decide) h), fun h => fu1 (mark_of (by decide) h), fun h => fu2 (mark_of (by decide) h), fun h => fu3 (mark_of (by decide) h), fun h => fu4 (mark_of (by decide) h), fun h => fu5 (mark_of (by decide) h), fun _ => rfl, fun h => fu7 (mark_of (by decide) h), fun h => fu8 (mark_of (by decide) h)⟩
    ·have eu6 := fu6 (dep_of 6 hru rfl (by kernel_rfl))
     replace eu6 := eu6.symm
     subst eu6
     refine wpOp_shut (by rfl) (fun K hK => ?_)
     simp only [Act.put, xL4, xL5, xL6]
     obtain ⟨y0, y1, y2, y3, y4, y5, y6, y7, y8, y9, y10, y11, y12, y13⟩ := VN.below hbu
     go_simp
     exact hK.out _ _ ⟨vu0, vu1, vu2, vu3, vu4, vu5, (.pointer (some ⟨R51, 11, none⟩)), (.agg #[.bool p3, .slice a3 n3 c3, .slice b3 m3 d3]), vu8, by simp only [Act.put, xL4, xL5, xL6], hbu, fun h => fu0 (mark_of (by decide) h), fun h => fu1 (mark_of (by decide) h), fun h => fu2 (mark_of (by decide) h), fun h => fu3 (mark_of (by decide) h), fun h => fu4 (mark_of (by decide) h), fun h => fu5 (mark_of (by decide) h), fun _ => rfl, fun _ => rfl, fun h => fu8 (mark_of (by decide) h)⟩
    ·have eu5 := fu5 (dep_of 5 hru rfl (by kernel_rfl))
     have eu7 := fu7 (dep_of 7 hru rfl (by kernel_rfl))
     replace eu5 := eu5.symm
     subst eu5
     replace eu7 := eu7.symm
     subst eu7
     refine wpOp_shut (by rfl) (fun K hK => ?_)
     simp only [Act.put, xL4, xL5, xL6]
     have ht := ht.below hbu
     have rc := rc.below hbu
     have R5 := R5.below hbu
     go_simp
     refine (share_at _ _ (ws t n i) (t i).cov (n * C) _ R5 (rc.le hLC) hNC (by omega) ht hcn).mono ?_
     rintro eu wx ⟨x6, rfl, hx, bu⟩
     go_wp2_with fail
     have hbu2 := hbu.trans (bu.mono hbu.size)
     exact hK.out _ _ ⟨vu0, vu1, vu2, vu3, vu4, (.agg #[.bool p5, .slice a5 n5 c5, .slice b5 m5 d5]), vu6, (.agg #[.bool p3, .slice a3 n3 c3, .slice b3 m3 d3]), _, by simp only [Act.put, xL4, xL5, xL6], hbu2, fun h => fu0 (mark_of (by decide) h), fun h => fu1 (mark_of (by decide) h), fun h => fu2 (mark_of (by decide) h), fun h => fu3 (mark_of (by decide) h), fun h => fu4 (mark_of (by decide) h), fun _ => rfl, fun h => fu6 (mark_of (by decide) h), fun _ => rfl, fun _ => hx⟩
   rintro au Wu52 ⟨vu0, vu1, vu2, vu3, vu4, vu5, vu6, vu7, vu8, rfl, hbu, fu0, fu1, fu2, fu3, fu4, fu5, fu6, fu7, fu8⟩
   have eu0 := (fu0 rfl).symm
   subst eu0
   have eu1 := (fu1 rfl).symm
   subst eu1
   have eu2 := (fu2 rfl).symm
   subst eu2
   have eu3 := (fu3 rfl).symm
   subst eu3
   have eu4 := (fu4 rfl).symm
   subst eu4
   have eu5 := (fu5 rfl).symm
   subst eu5
   have eu6 := (fu6 rfl).symm
   subst eu6
   have eu7 := (fu7 rfl).symm
   subst eu7
   have hx := fu8 rfl
   clear fu0 fu1 fu2 fu3 fu4 fu5 fu6 fu7 fu8
   have hlX5 : G < W51.heap.size := X5.lt
   replace NA := NA.below hbu
   replace ht := ht.below hbu
   replace rc := rc.below hbu
   replace VN := VN.below hbu
   replace R5 := R5.below hbu
   replace X5 := X5.below hbu
   replace BB := BB.trans (hbu.mono BB.size)
   clear hbu
   rw [← HMV.out] at hx
   obtain ⟨p6, a6, n6, c6, b6, m6, d6, rfl⟩ := hx.open
   simp only [Act.put, xL4, xL5, xL6]
   refine wpAnyH_ready (rs := [9]) (by kernel_rfl) (by simp) ?_
   refine AllReadyH.cons (by rfl) (fun K hK => ?_) AllReadyH.nil
   go_simp
   refine hK.out _ _ trivial (fun _ => ?_)
   clear hK K
   simp only [Act.put, xL4, xL5, xL6]
   refine wpAnyH_ready (rs := [10]) (by kernel_rfl) (by simp) ?_
   refine AllReadyH.cons (by rfl) (fun K hK => ?_) AllReadyH.nil
   obtain ⟨u0, u1, u2, x0, x1, x2, y0, y1, y2, NA2⟩ := NA.put hlt hx
   have BB2 : Below w.heap.size w (((Wu52.setCell ⟨G, i * 3, none⟩ (.bool p6)).setCell ⟨G, i * 3 + 1, none⟩ (.slice a6 n6 c6)).setCell ⟨G, i * 3 + 2, none⟩ (.slice b6 m6 d6)) := ((BB.setCell hGB _).setCell hGB _).setCell hGB _
   go_simp
   clear x0 x1 x2 y0 y1 y2
   refine hK.out _ _ trivial (fun _ => ?_)
   clear hK K
   simp only [Act.put, xL4, xL5, xL6]
   refine wpAnyH_done (by kernel_rfl) ?_ _
   go_wp2
   go_roundw
   case rel => exact ⟨i + 1, by omega, by go_num, NA2, BB2⟩
   case measure => simp [intOf]; omega
  ·obtain rfl : i = n := by omega
   have g1 : ¬ (i : Int) < (i : Int) := by omega
   go_wp2
   go_ret2
   exact ⟨_, rfl, NA.row (by omega), BB⟩

theorem step_append_pureM {P : Program} {Q' : Value → Prop} {ops : Array Oper} {o : Oper} {a : Act} {K : Act → World → Prop} {Q : Exit → Act → World → Prop} {E : Prop} {w : World} (hgd : o.guard = none) (s x : Operand) (t : TypeId)
  (ho : o.op = .call { callee := .builtin .append, args := #[s, x], argTypes := #[t, t] }) (base : Nat) (e : TypeId) (z : Value) (size bytes : Nat) (ht : P.underlying t = some (.slice e))
  (hinfo : (P.info? e).map (fun i => (i.zero, i.size, i.bytes)) = some (some z, size, bytes)) (hzs : z.cells.size = size) (hsz : 0 < size)
  (v : Value) (hs : a.eval s = v) (n : Nat) (xs : List Value) (hown : w.ownsRow base e size v n xs) (hpure : ∀ g, v.ownBlock = some g → PureB Q' w g)
  (ad : Addr) (m c : Nat) (hm1 : 1 ≤ m) (hm2 : m ≤ 1000) (hx : a.eval x = .slice (some ad) m c) (news : List Value) (hl : news.length = m * size) (hnews : ∀ j u, news[j]? = some u → w.cell? (ad.add j) = some u) (h1 : ∀ u ∈ news, u.oneCell' = true)
  (hq : ∀ u ∈ news, ¬ Q' u) (hqz : ∀ u ∈ z.cells.toList, ¬ Q' u) (h63 : n ≤ 1000000000) (hbytes : bytes ≤ 1000) (hbase : base ≤ w.heap.size)
  (h : ∀ g' cap' w', w'.ownsRow base e size (.slice (some ⟨g', 0, none⟩) (n + m) cap') (n + m) (xs ++ news) → w.grownBy w' v.ownBlock → (v.ownBlock = some g' ∨ g' = w.heap.size) → PureB Q' w' g' → KeepQ Q' w w' →
   K (a.put o.dst (.slice (some ⟨g', 0, none⟩) (n + m) cap')) w') :
  if Region.wanted o (yielded ops a.tmps) = true then Oper.wp P o a w K Q else E := by
 have hw : Region.wanted o (yielded ops a.tmps) = true := by simp [Region.wanted, hgd]
 rw [if_pos hw]
 obtain ⟨i0, hi, hz0, hz1, hz2⟩ := info_parts hinfo
 obtain ⟨g', cap', w', hr, h2, h3, h4, h5, h6⟩ := append_pureM (P := P) (Q := Q') w base t o.type e i0 z size bytes ht hi hz0 hz1 hz2 hzs hsz v n xs hown hpure ad m c hm1 hm2 news hl hnews h1 hq hqz h63 hbytes hbase
 unfold Oper.wp execOp
 simp only [ho, resolve, invoke, builtin, Sem.run_bind, Sem.run_pure, Result.andThen_ok, List.map_toArray, List.map_cons, List.map_nil, hs, hx, hr]
 exact h g' cap' w' h2 h3 h4 h5 h6
theorem MayT.lvs_few {F : Int} {t : Nat → Nd} {n : Nat} (h : MayT F t n) {x : Nat} (hx : x < n) : 1 ≤ (lvs t n x).length ∧ (lvs t n x).length ≤ n := by
 have h1 := h.count hx
 have h2 := h.pre_few hx
 omega


set_option maxRecDepth 100000 in
set_option maxHeartbeats 16000000 in
theorem lleaves_ind (F : Int) (vt : Value) (n : Nat) (t : Nat → Nd) (L : Nat) (hm : MayT F t n) : ∀ (k x : Nat) (w : World), x < n → n + 1 ≤ lvl t n x + k → TRow w vt n t L →
  Calls Tryz.prog 23 #[vt, .int .i64 (x : Int)] w fun e w' => ∃ u, e = .returned u ∧ IntOwn w.heap.size w' u (lvs t n x) ∧ Below w.heap.size w w' := by
 intro k
 induction k with
 | zero =>
  intro x w hx hk
  have := hm.lvl_le hx
  omega
 | succ k ih =>
  intro x w hx hk ht
  obtain ⟨ao, ct, rfl, htc, ht63⟩ := ht.open
  have BB : Below w.heap.size w w := Below.refl _ _
  have g0 : (0 : Int) ≤ (x : Int) := by omega
  have g1 : (x : Int) < (n : Int) := by omega
  have hn255 := hm.few
  obtain ⟨b, off, cc, p1, a1, n1, c1, b1, m1, d1, p2, a2, n2, c2, b2, m2, d2, p3, a3, n3, c3, b3, m3, d3, hvv, hcc, hc6, NN, r1, r2, r3, i1, i2, i3⟩ := ht.at hx
  cases hvv
  obtain ⟨lf, hlf⟩ : ∃ z, (t x).leaf = z := ⟨_, rfl⟩
  rw [hlf] at NN
  have X0 : Cel10 w b (off + x * 14) (.bool lf) := ⟨NN.c0⟩
  have X5 : Cel10 w b (off + x * 14 + 5) (.int .i64 (t x).left) := ⟨NN.c5⟩
  have X6 : Cel10 w b (off + x * 14 + 6) (.int .i64 (t x).right) := ⟨NN.c6⟩
  clear NN r1 r2 r3 i1 i2 i3
  cases lf
  ·obtain ⟨e1, e2, k1, k2, k3, k4, l1, l2⟩ := hm.kids hx hlf
   have HWS : Hid (lvs t n x = lvs t n (kl t x) ++ lvs t n (kr t x)) := hm.lvs_split hx hlf
   have hk1 : n + 1 ≤ lvl t n (kl t x) + k := by omega
   have hk2 : n + 1 ≤ lvl t n (kr t x) + k := by omega
   have IH1 : Hid (∀ w, TRow w (.slice (some ⟨b, off, none⟩) n ct) n t L → Calls Tryz.prog 23 #[.slice (some ⟨b, off, none⟩) n ct, .int .i64 (kl t x : Int)] w fun e w' => ∃ u, e = .returned u ∧ IntOwn w.heap.size w' u (lvs t n (kl t x)) ∧ Below w.heap.size w w') := fun w h => ih (kl t x) w k2 hk1 h
   have IH2 : Hid (∀ w, TRow w (.slice (some ⟨b, off, none⟩) n ct) n t L → Calls Tryz.prog 23 #[.slice (some ⟨b, off, none⟩) n ct, .int .i64 (kr t x : Int)] w fun e w' => ∃ u, e = .returned u ∧ IntOwn w.heap.size w' u (lvs t n (kr t x)) ∧ Below w.heap.size w w') := fun w h => ih (kr t x) w k4 hk2 h
   have hf1 := hm.lvs_few k2
   have hf2 := hm.lvs_few k4
   rw [e1] at X5
   rw [e2] at X6
   clear ih hk1 hk2 hk l1 l2 e1 e2 k1 k3 hlf
   have HMX : Hid (MayT F t n) := hm
   clear hm
   generalize lvs t n (kl t x) = zl at *
   generalize lvs t n (kr t x) = zr at *
   generalize kl t x = lr at *
   generalize kr t x = rr at *
   obtain ⟨ll, hll⟩ : ∃ ll, zl.length = ll := ⟨_, rfl⟩
   obtain ⟨lq, hlq⟩ : ∃ lq, zr.length = lq := ⟨_, rfl⟩
   have HLL : Hid (zl.length = ll) := hll
   have HLQ : Hid (zr.length = lq) := hlq
   rw [hll] at hf1
   rw [hlq] at hf2
   clear hll hlq
   have Z0 := X0.cell
   go_enter Tryz.func23, Tryz.ntmps23
   go_wp2
   clear Z0
   refine wp_region_until 14 #[true, true, true, true, true, true, true, true, true, true, true, true, true, true, false, false] (fun aF lsd a' w' => ∃ vu0 vu1 vu2 vu3 vu4 vu5 vu6 vu7 vu8 vu9 vu10 vu11 vu12 vu13 : Value, a' = (((((((((((((aF.put (some 12) vu0).put (some 13) vu1).put (some 14) vu2).put (some 15) vu3).put (some 16) vu4).put (some 17) vu5).put (some 18) vu6).put (some 19) vu7).put (some 20) vu8).put (some 21) vu9).put (some 22) vu10).put (some 23) vu11).put (some 24) vu12).put (some 25) vu13 ∧ Below w.heap.size w w' ∧ (lsd.getD 0 false = true → vu0 = .slice (some ⟨b, off, none⟩) n ct) ∧ (lsd.getD 1 false = true → vu1 = .slice (some ⟨b, off, none⟩) n ct) ∧ (lsd.getD 2 false = true → vu2 = .int .i64 (x : Int)) ∧ (lsd.getD 3 false = true → vu3 = .pointer (some ⟨b, off + x * 14, none⟩)) ∧ (lsd.getD 4 false = true → vu4 = .pointer (some ⟨b, off + x * 14 + 5, none⟩)) ∧ (lsd.getD 5 false = true → vu5 = .int .i64 (lr : Int)) ∧ (lsd.getD 6 false = true → IntOwn w.heap.size w' vu6 zl) ∧ (lsd.getD 7 false = true → vu7 = .slice (some ⟨b, off, none⟩) n ct) ∧ (lsd.getD 8 false = true → vu8 = .slice (some ⟨b, off, none⟩) n ct) ∧ (lsd.getD 9 false = true → vu9 = .int .i64 (x : Int)) ∧ (lsd.getD 10 false = true → vu10 = .pointer (some ⟨b, off + x * 14, none⟩)) ∧ (lsd.getD 11 false = true → vu11 = .pointer (some ⟨b, off + x * 14 + 6, none⟩)) ∧ (lsd.getD 12 false = true → vu12 = .int .i64 (rr : Int)) ∧ (lsd.getD 13 false = true → IntOwn w.heap.size w' vu13 zr)) (by kernel_rfl) (by decide) (by kernel_rfl) (by rfl) (by kernel_rfl) ?_ ?_ ?_
   ·exact ⟨_, _, _, _, _, _, _, _, _, _, _, _, _, _, by simp only [Act.put, xL4, xL5, xL6]; rfl, (Below.refl _ _).drew, fun h => absurd h (fun h => mark_none h), fun h => absurd h (fun h => mark_none h), fun h => absurd h (fun h => mark_none h), fun h => absurd h (fun h => mark_none h), fun h => absurd h (fun h => mark_none h), fun h => absurd h (fun h => mark_none h), fun h => absurd h (fun h => mark_none h), fun h => absurd h (fun h => mark_none h), fun h => absurd h (fun h => mark_none h), fun h => absurd h (fun h => mark_none h), fun h => absurd h (fun h => mark_none h), fun h => absurd h (fun h => mark_none h), fun h => absurd h (fun h => mark_none h), fun h => absurd h (fun h => mark_none h)⟩
   ·rintro lsd au wn iu hszu ⟨vu0, vu1, vu2, vu3, vu4, vu5, vu6, vu7, vu8, vu9, vu10, vu11, vu12, vu13, rfl, hbu, fu0, fu1, fu2, fu3, fu4, fu5, fu6, fu7, fu8, fu9, fu10, fu11, fu12, fu13⟩ himu hru
    rcases (show iu = 0 ∨ iu = 1 ∨ iu = 2 ∨ iu = 3 ∨ iu = 4 ∨ iu = 5 ∨ iu = 6 ∨ iu = 7 ∨ iu = 8 ∨ iu = 9 ∨ iu = 10 ∨ iu = 11 ∨ iu = 12 ∨ iu = 13 by omega) with rfl | rfl | rfl | rfl | rfl | rfl | rfl | rfl | rfl | rfl | rfl | rfl | rfl | rfl
    ·refine wpOp_shut (by rfl) (fun K hK => ?_)
     simp only [Act.put, xL4, xL5, xL6]
     go_simp
     exact hK.out _ _ ⟨(.slice (some ⟨b, off, none⟩) n ct), vu1, vu2, vu3, vu4, vu5, vu6, vu7, vu8, vu9, vu10, vu11, vu12, vu13, by simp only [Act.put, xL4, xL5, xL6], hbu, fun _ => rfl, fun h => fu1 (mark_of (by decide) h), fun h => fu2 (mark_of (by decide) h), fun h => fu3 (mark_of (by decide) h), fun h => fu4 (mark_of (by decide) h), fun h => fu5 (mark_of (by decide) h), fun h => fu6 (mark_of (by decide) h), fun h => fu7 (mark_of (by decide) h), fun h => fu8 (mark_of (by decide) h), fun h => fu9 (mark_of (by decide) h), fun h => fu10 (mark_of (by decide) h), fun h => fu11 (mark_of (by decide) h), fun h => fu12 (mark_of (by decide) h), fun h => fu13 (mark_of (by decide) h)⟩
    ·refine wpOp_shut (by rfl) (fun K hK => ?_)
     simp only [Act.put, xL4, xL5, xL6]
     go_simp
     exact hK.out _ _ ⟨vu0, (.slice (some ⟨b, off, none⟩) n ct), vu2, vu3, vu4, vu5, vu6, vu7, vu8, vu9, vu10, vu11, vu12, vu13, by simp only [Act.put, xL4, xL5, xL6], hbu, fun h => fu0 (mark_of (by decide) h), fun _ => rfl, fun h => fu2 (mark_of (by decide) h), fun h => fu3 (mark_of (by decide) h), fun h => fu4 (mark_of (by decide) h), fun h => fu5 (mark_of (by decide) h), fun h => fu6 (mark_of (by decide) h), fun h => fu7 (mark_of (by decide) h), fun h => fu8 (mark_of (by decide) h), fun h => fu9 (mark_of (by decide) h), fun h => fu10 (mark_of (by decide) h), fun h => fu11 (mark_of (by decide) h), fun h => fu12 (mark_of (by decide) h), fun h => fu13 (mark_of (by decide) h)⟩
    ·refine wpOp_shut (by rfl) (fun K hK => ?_)
     simp only [Act.put, xL4, xL5, xL6]
     go_simp
     exact hK.out _ _ ⟨vu0, vu1, (.int .i64 (x : Int)), vu3, vu4, vu5, vu6, vu7, vu8, vu9, vu10, vu11, vu12, vu13, by simp only [Act.put, xL4, xL5, xL6], hbu, fun h => fu0 (mark_of (by decide) h), fun h => fu1 (mark_of (by decide) h), fun _ => rfl, fun h => fu3 (mark_of (by decide) h), fun h => fu4 (mark_of (by decide) h), fun h => fu5 (mark_of (by decide) h), fun h => fu6 (mark_of (by decide) h), fun h => fu7 (mark_of (by decide) h), fun h => fu8 (mark_of (by decide) h), fun h => fu9 (mark_of (by decide) h), fun h => fu10 (mark_of (by decide) h), fun h => fu11 (mark_of (by decide) h), fun h => fu12 (mark_of (by decide) h), fun h => fu13 (mark_of (by decide) h)⟩
    ·have eu1 := fu1 (dep_of 1 hru rfl (by kernel_rfl))
     have eu2 := fu2 (dep_of 2 hru rfl (by kernel_rfl))
     replace eu1 := eu1.symm
     subst eu1
     replace eu2 := eu2.symm
     subst eu2
     refine wpOp_shut (by rfl) (fun K hK => ?_)
     simp only [Act.put, xL4, xL5, xL6]
     go_simp
     exact hK.out _ _ ⟨vu0, (.slice (some ⟨b, off, none⟩) n ct), (.int .i64 (x : Int)), (.pointer (some ⟨b, off + x * 14, none⟩)), vu4, vu5, vu6, vu7, vu8, vu9, vu10, vu11, vu12, vu13, by simp only [Act.put, xL4, xL5, xL6], hbu, fun h => fu0 (mark_of (by decide) h), fun _ => rfl, fun _ => rfl, fun _ => rfl, fun h => fu4 (mark_of (by decide) h), fun h => fu5 (mark_of (by decide) h), fun h => fu6 (mark_of (by decide) h), fun h => fu7 (mark_of (by decide) h), fun h => fu8 (mark_of (by decide) h), fun h => fu9 (mark_of (by decide) h), fun h => fu10 (mark_of (by decide) h), fun h => fu11 (mark_of (by decide) h), fun h => fu12 (mark_of (by decide) h), fun h => fu13 (mark_of (by decide) h)⟩
    ·have eu3 := fu3 (dep_of 3 hru rfl (by kernel_rfl))
     replace eu3 := eu3.symm
     subst eu3
     refine wpOp_shut (by rfl) (fun K hK => ?_)
     simp only [Act.put, xL4, xL5, xL6]
     go_simp
     exact hK.out _ _ ⟨vu0, vu1, vu2, (.pointer (some ⟨b, off + x * 14, none⟩)), (.pointer (some ⟨b, off + x * 14 + 5, none⟩)), vu5, vu6, vu7, vu8, vu9, vu10, vu11, vu12, vu13, by simp only [Act.put, xL4, xL5, xL6], hbu, fun h => fu0 (mark_of (by decide) h), fun h => fu1 (mark_of (by decide) h), fun h => fu2 (mark_of (by decide) h), fun _ => rfl, fun _ => rfl, fun h => fu5 (mark_of (by decide) h), fun h => fu6 (mark_of (by decide) h), fun h => fu7 (mark_of (by decide) h), fun h => fu8 (mark_of (by decide) h), fun h => fu9 (mark_of (by decide) h), fun h => fu10 (mark_of (by decide) h), fun h => fu11 (mark_of (by decide) h), fun h => fu12 (mark_of (by decide) h), fun h => fu13 (mark_of (by decide) h)⟩
    ·have eu4 := fu4 (dep_of 4 hru rfl (by kernel_rfl))
     replace eu4 := eu4.symm
     subst eu4
     refine wpOp_shut (by rfl) (fun K hK => ?_)
     simp only [Act.put, xL4, xL5, xL6]
     have z1 := (X5.below hbu).cell
     go_simp
     exact hK.out _ _ ⟨vu0, vu1, vu2, vu3, (.pointer (some ⟨b, off + x * 14 + 5, none⟩)), (.int .i64 (lr : Int)), vu6, vu7, vu8, vu9, vu10, vu11, vu12, vu13, by simp only [Act.put, xL4, xL5, xL6], hbu, fun h => fu0 (mark_of (by decide) h), fun h => fu1 (mark_of (by decide) h), fun h => fu2 (mark_of (by decide) h), fun h => fu3 (mark_of (by decide) h), fun _ => rfl, fun _ => rfl, fun h => fu6 (mark_of (by decide) h), fun h => fu7 (mark_of (by decide) h), fun h => fu8 (mark_of (by decide) h), fun h => fu9 (mark_of (by decide) h), fun h => fu10 (mark_of (by decide) h), fun h => fu11 (mark_of (by decide) h), fun h => fu12 (mark_of (by decide) h), fun h => fu13 (mark_of (by decide) h)⟩
    ·have eu0 := fu0 (dep_of 0 hru rfl (by kernel_rfl))
     have eu5 := fu5 (dep_of 5 hru rfl (by kernel_rfl))
     replace eu0 := eu0.symm
     subst eu0
     replace eu5 := eu5.symm
     subst eu5
     refine wpOp_shut (by rfl) (fun K hK => ?_)
     simp only [Act.put, xL4, xL5, xL6]
     have ht := ht.below hbu
     go_simp
     refine (IH1.out _ ht).mono ?_
     rintro eu wx ⟨u6, rfl, h6, bu⟩
     replace h6 := h6.le (show w.heap.size ≤ _ from Nat.le_trans BB.size hbu.size)
     go_wp2_with fail
     have hbu2 := hbu.trans (bu.mono hbu.size)
     exact hK.out _ _ ⟨(.slice (some ⟨b, off, none⟩) n ct), vu1, vu2, vu3, vu4, (.int .i64 (lr : Int)), _, vu7, vu8, vu9, vu10, vu11, vu12, vu13, by simp only [Act.put, xL4, xL5, xL6], hbu2, fun _ => rfl, fun h => fu1 (mark_of (by decide) h), fun h => fu2 (mark_of (by decide) h), fun h => fu3 (mark_of (by decide) h), fun h => fu4 (mark_of (by decide) h), fun _ => rfl, fun _ => h6, fun h => fu7 (mark_of (by decide) h), fun h => fu8 (mark_of (by decide) h), fun h => fu9 (mark_of (by decide) h), fun h => fu10 (mark_of (by decide) h), fun h => fu11 (mark_of (by decide) h), fun h => fu12 (mark_of (by decide) h), fun h => (fu13 (mark_of (by decide) h)).below bu⟩
    ·refine wpOp_shut (by rfl) (fun K hK => ?_)
     simp only [Act.put, xL4, xL5, xL6]
     go_simp
     exact hK.out _ _ ⟨vu0, vu1, vu2, vu3, vu4, vu5, vu6, (.slice (some ⟨b, off, none⟩) n ct), vu8, vu9, vu10, vu11, vu12, vu13, by simp only [Act.put, xL4, xL5, xL6], hbu, fun h => fu0 (mark_of (by decide) h), fun h => fu1 (mark_of (by decide) h), fun h => fu2 (mark_of (by decide) h), fun h => fu3 (mark_of (by decide) h), fun h => fu4 (mark_of (by decide) h), fun h => fu5 (mark_of (by decide) h), fun h => fu6 (mark_of (by decide) h), fun _ => rfl, fun h => fu8 (mark_of (by decide) h), fun h => fu9 (mark_of (by decide) h), fun h => fu10 (mark_of (by decide) h), fun h => fu11 (mark_of (by decide) h), fun h => fu12 (mark_of (by decide) h), fun h => fu13 (mark_of (by decide) h)⟩
    ·refine wpOp_shut (by rfl) (fun K hK => ?_)
     simp only [Act.put, xL4, xL5, xL6]
     go_simp
     exact hK.out _ _ ⟨vu0, vu1, vu2, vu3, vu4, vu5, vu6, vu7, (.slice (some ⟨b, off, none⟩) n ct), vu9, vu10, vu11, vu12, vu13, by simp only [Act.put, xL4, xL5, xL6], hbu, fun h => fu0 (mark_of (by decide) h), fun h => fu1 (mark_of (by decide) h), fun h => fu2 (mark_of (by decide) h), fun h => fu3 (mark_of (by decide) h), fun h => fu4 (mark_of (by decide) h), fun h => fu5 (mark_of (by decide) h), fun h => fu6 (mark_of (by decide) h), fun h => fu7 (mark_of (by decide) h), fun _ => rfl, fun h => fu9 (mark_of (by decide) h), fun h => fu10 (mark_of (by decide) h), fun h => fu11 (mark_of (by decide) h), fun h => fu12 (mark_of (by decide) h), fun h => fu13 (mark_of (by decide) h)⟩
    ·refine wpOp_shut (by rfl) (fun K hK => ?_)
     simp only [Act.put, xL4, xL5, xL6]
     go_simp
     exact hK.out _ _ ⟨vu0, vu1, vu2, vu3, vu4, vu5, vu6, vu7, vu8, (.int .i64 (x : Int)), vu10, vu11, vu12, vu13, by simp only [Act.put, xL4, xL5, xL6], hbu, fun h => fu0 (mark_of (by decide) h), fun h => fu1 (mark_of (by decide) h), fun h => fu2 (mark_of (by decide) h), fun h => fu3 (mark_of (by decide) h), fun h => fu4 (mark_of (by decide) h), fun h => fu5 (mark_of (by decide) h), fun h => fu6 (mark_of (by decide) h), fun h => fu7 (mark_of (by decide) h), fun h => fu8 (mark_of (by decide) h), fun _ => rfl, fun h => fu10 (mark_of (by decide) h), fun h => fu11 (mark_of (by decide) h), fun h => fu12 (mark_of (by decide) h), fun h => fu13 (mark_of (by decide) h)⟩
    ·have eu8 := fu8 (dep_of 8 hru rfl (by kernel_rfl))
     have eu9 := fu9 (dep_of 9 hru rfl (by kernel_rfl))
     replace eu8 := eu8.symm
     subst eu8
     replace eu9 := eu9.symm
     subst eu9
     refine wpOp_shut (by rfl) (fun K hK => ?_)
     simp only [Act.put, xL4, xL5, xL6]
     go_simp
     exact hK.out _ _ ⟨vu0, vu1, vu2, vu3, vu4, vu5, vu6, vu7, (.slice (some ⟨b, off, none⟩) n ct), (.int .i64 (x : Int)), (.pointer (some ⟨b, off + x * 14, none⟩)), vu11, vu12, vu13, by simp only [Act.put, xL4, xL5, xL6], hbu, fun h => fu0 (mark_of (by decide) h), fun h => fu1 (mark_of (by decide) h), fun h => fu2 (mark_of (by decide) h), fun h => fu3 (mark_of (by decide) h), fun h => fu4 (mark_of (by decide) h), fun h => fu5 (mark_of (by decide) h), fun h => fu6 (mark_of (by decide) h), fun h => fu7 (mark_of (by decide) h), fun _ => rfl, fun _ => rfl, fun _ => rfl, fun h => fu11 (mark_of (by decide) h), fun h => fu12 (mark_of (by decide) h), fun h => fu13 (mark_of (by decide) h)⟩
    ·have eu10 := fu10 (dep_of 10 hru rfl (by kernel_rfl))
     replace eu10 := eu10.symm
     subst eu10
     refine wpOp_shut (by rfl) (fun K hK => ?_)
     simp only [Act.put, xL4, xL5, xL6]
     go_simp
     exact hK.out _ _ ⟨vu0, vu1, vu2, vu3, vu4, vu5, vu6, vu7, vu8, vu9, (.pointer (some ⟨b, off + x * 14, none⟩)), (.pointer (some ⟨b, off + x * 14 + 6, none⟩)), vu12, vu13, by simp only [Act.put, xL4, xL5, xL6], hbu, fun h => fu0 (mark_of (by decide) h), fun h => fu1 (mark_of (by decide) h), fun h => fu2 (mark_of (by decide) h), fun h => fu3 (mark_of (by decide) h), fun h => fu4 (mark_of (by decide) h), fun h => fu5 (mark_of (by decide) h), fun h => fu6 (mark_of (by decide) h), fun h => fu7 (mark_of (by decide) h), fun h => fu8 (mark_of (by decide) h), fun h => fu9 (mark_of (by decide) h), fun _ => rfl, fun _ => rfl, fun h => fu12 (mark_of (by decide) h), fun h => fu13 (mark_of (by decide) h)⟩
    ·have eu11 := fu11 (dep_of 11 hru rfl (by kernel_rfl))
     replace eu11 := eu11.symm
     subst eu11
     refine wpOp_shut (by rfl) (fun K hK => ?_)
     simp only [Act.put, xL4, xL5, xL6]
     have z1 := (X6.below hbu).cell
     go_simp
     exact hK.out _ _ ⟨vu0, vu1, vu2, vu3, vu4, vu5, vu6, vu7, vu8, vu9, vu10, (.pointer (some ⟨b, off + x * 14 + 6, none⟩)), (.int .i64 (rr : Int)), vu13, by simp only [Act.put, xL4, xL5, xL6], hbu, fun h => fu0 (mark_of (by decide) h), fun h => fu1 (mark_of (by decide) h), fun h => fu2 (mark_of (by decide) h), fun h => fu3 (mark_of (by decide) h), fun h => fu4 (mark_of (by decide) h), fun h => fu5 (mark_of (by decide) h), fun h => fu6 (mark_of (by decide) h), fun h => fu7 (mark_of (by decide) h), fun h => fu8 (mark_of (by decide) h), fun h => fu9 (mark_of (by decide) h), fun h => fu10 (mark_of (by decide) h), fun _ => rfl, fun _ => rfl, fun h => fu13 (mark_of (by decide) h)⟩
    ·have eu7 := fu7 (dep_of 7 hru rfl (by kernel_rfl))
     have eu12 := fu12 (dep_of 12 hru rfl (by kernel_rfl))
     replace eu7 := eu7.symm
     subst eu7
     replace eu12 := eu12.symm
     subst eu12
     have h6 := fu6 (dep_of 6 hru rfl (by kernel_rfl))
     refine wpOp_shut (by rfl) (fun K hK => ?_)
     simp only [Act.put, xL4, xL5, xL6]
     have ht := ht.below hbu
     go_simp
     refine (IH2.out _ ht).mono ?_
     rintro eu wx ⟨u13, rfl, h13, bu⟩
     replace h13 := h13.le (show w.heap.size ≤ _ from Nat.le_trans BB.size hbu.size)
     go_wp2_with fail
     have hbu2 := hbu.trans (bu.mono hbu.size)
     exact hK.out _ _ ⟨vu0, vu1, vu2, vu3, vu4, vu5, vu6, (.slice (some ⟨b, off, none⟩) n ct), vu8, vu9, vu10, vu11, (.int .i64 (rr : Int)), _, by simp only [Act.put, xL4, xL5, xL6], hbu2, fun h => fu0 (mark_of (by decide) h), fun h => fu1 (mark_of (by decide) h), fun h => fu2 (mark_of (by decide) h), fun h => fu3 (mark_of (by decide) h), fun h => fu4 (mark_of (by decide) h), fun h => fu5 (mark_of (by decide) h), fun h => (fu6 (mark_of (by decide) h)).below bu, fun _ => rfl, fun h => fu8 (mark_of (by decide) h), fun h => fu9 (mark_of (by decide) h), fun h => fu10 (mark_of (by decide) h), fun h => fu11 (mark_of (by decide) h), fun _ => rfl, fun _ => h13⟩
   rintro au Wu31 ⟨vu0, vu1, vu2, vu3, vu4, vu5, vu6, vu7, vu8, vu9, vu10, vu11, vu12, vu13, rfl, hbu, fu0, fu1, fu2, fu3, fu4, fu5, fu6, fu7, fu8, fu9, fu10, fu11, fu12, fu13⟩
   have eu0 := (fu0 rfl).symm
   subst eu0
   have eu1 := (fu1 rfl).symm
   subst eu1
   have eu2 := (fu2 rfl).symm
   subst eu2
   have eu3 := (fu3 rfl).symm
   subst eu3
   have eu4 := (fu4 rfl).symm
   subst eu4
   have eu5 := (fu5 rfl).symm
   subst eu5
   have h6 := fu6 rfl
   have eu7 := (fu7 rfl).symm
   subst eu7
   have eu8 := (fu8 rfl).symm
   subst eu8
   have eu9 := (fu9 rfl).symm
   subst eu9
   have eu10 := (fu10 rfl).symm
   subst eu10
   have eu11 := (fu11 rfl).symm
   subst eu11
   have eu12 := (fu12 rfl).symm
   subst eu12
   have h13 := fu13 rfl
   clear fu0 fu1 fu2 fu3 fu4 fu5 fu6 fu7 fu8 fu9 fu10 fu11 fu12 fu13
   replace ht := ht.below hbu
   replace BB := BB.trans (hbu.mono BB.size)
   clear hbu
   simp only [Act.put, xL4, xL5, xL6]
   refine wpAnyH_ready (rs := [14]) (by kernel_rfl) (by simp) ?_
   refine AllReadyH.cons (by rfl) (fun K hK => ?_) AllReadyH.nil
   obtain ⟨gl, cl, rfl, hcl⟩ := h6.open (by have := HLL.out; omega)
   obtain ⟨gu, cu, rfl, hcu⟩ := h13.open (by have := HLQ.out; omega)
   rw [HLL.out] at hcl
   rw [HLQ.out] at hcu
   have hF8 := int_len HLL.out h6
   have hcc : ∀ j u, (zr.map (fun x : Nat => Value.int .i64 (x : Int)))[j]? = some u → Wu31.cell? ((⟨gu, 0, none⟩ : Addr).add j) = some u := World.ownsRow.cells h13 (g := gu) rfl
   have hnl : (zr.map (fun x : Nat => Value.int .i64 (x : Int))).length = lq * 1 := by rw [List.length_map, HLQ.out, Nat.mul_one]
   have h1c : ∀ u ∈ zr.map (fun x : Nat => Value.int .i64 (x : Int)), u.oneCell' = true := by intro u hu; rw [List.mem_map] at hu; obtain ⟨y, _, rfl⟩ := hu; rfl
   refine step_append_pureM (Q' := fun _ => False) (by rfl) _ _ _ (by rfl) w.heap.size 3 (.int .i64 0) 1 8 Tryz.underlying54 info_int (by rfl) (by omega) (.slice (some ⟨gl, 0, none⟩) zl.length cl) (by rfl) ll (zl.map (fun x : Nat => Value.int .i64 (x : Int))) hF8 (fun _ _ _ _ _ h => h) ⟨gu, 0, none⟩ lq cu (by omega) (by omega) (by rw [← HLQ.out]; rfl) (zr.map (fun x : Nat => Value.int .i64 (x : Int))) hnl hcc h1c (by simp) (by simp) (by omega) (by omega) BB.size ?_
   intro gn cn w8 hO8 hg8 hat8 _ _
   have BB8 : Below w.heap.size w w8 := below_grownB BB hg8 BB.size (fun g h => (h6.both g h).1)
   have hO9 := int_app HLL.out HLQ.out hO8
   clear hO8 hg8 hat8 hcc hnl h1c hF8
   refine hK.out _ _ trivial (fun _ => ?_)
   clear hK K
   simp only [Act.put, xL4, xL5, xL6]
   refine wpAnyH_ready (rs := [15]) (by kernel_rfl) (by simp) ?_
   refine AllReadyH.cons (by rfl) (fun K hK => ?_) AllReadyH.nil
   go_simp
   refine hK.out _ _ trivial (fun _ => ?_)
   clear hK K
   simp only [Act.put, xL4, xL5, xL6]
   refine wpAnyH_done (by kernel_rfl) ?_ _
   go_wp2
   go_ret
   exact ⟨_, rfl, by rw [HWS.out]; exact hO9, BB8⟩
  ·have HW : Hid (lvs t n x = [x]) := lvs_leaf hlf
   clear hlf ht X5 X6
   have hF := int_first w x w.heap.size (Nat.le_refl _)
   have BB2 : Below w.heap.size w (w.alloc (.cells #[.int .i64 (x : Int)] 3)) := BB.alloc (Nat.le_refl _) _
   have Z0 := X0.cell
   go_enter Tryz.func23, Tryz.ntmps23
   go_wp2
   go_ret
   exact ⟨_, rfl, by rw [HW.out]; exact hF, BB2⟩
theorem lleaves_at (F : Int) (vt : Value) (n x : Nat) (t : Nat → Nd) (L : Nat) (w : World) (hm : MayT F t n) (hx : x < n) (ht : TRow w vt n t L) :
  Calls Tryz.prog 23 #[vt, .int .i64 (x : Int)] w fun e w' => ∃ u, e = .returned u ∧ IntOwn w.heap.size w' u (lvs t n x) ∧ Below w.heap.size w w' :=
 lleaves_ind F vt n t L hm (n + 1) x w hx (by omega) ht

end Go.Proofs.YtcackghehjbeeaaGreatDoor
