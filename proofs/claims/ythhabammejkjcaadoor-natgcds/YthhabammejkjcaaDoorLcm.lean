/-
  What nat.Lcm and the document's Gcd answer.
-/
import Derived.Test.YthhabammejkjcaaDoorGcdAll
import Derived.Test.YthhabammejkjcaaDoorRefOver
namespace Go.Proofs.YthhabammejkjcaaDoor
open Go.RowKit
set_option linter.unusedVariables false

theorem gcd_rep (u v : Value) (x y : Nat) (w : World) (hu : Rep w u x) (hv : Rep w v y) (hx : nl W32 x ≤ 900000) (hy : nl W32 y ≤ 900000) (ht : Tab w) :
    Calls Tryd.prog 9 #[u, v] w fun e w' => ∃ r, e = .returned r ∧ Rep w' r (Nat.gcd x y) ∧ Below w.heap.size w w' := by
  have h := gcd_any u v _ _ _ _ w hu hv (u64_dg x _) (u64_dg y _) (by rw [num_nl]; exact hx) (by rw [num_nl]; exact hy) ht
  rw [num_nl, num_nl] at h; exact h

theorem zero_form (w : World) : Rep w (.slice none 0 0) 0 := by
  unfold Rep; rw [nl_zero]; exact Mine.nums (Mine.nil .u64 0 w _)

/-- The least number that both divide, as Lcm reckons it. -/
def lcmOf (x y : Nat) : Nat := x / Nat.gcd x y * y

set_option maxRecDepth 20000 in
set_option maxHeartbeats 1000000 in
theorem lcm_any (u v : Value) (n m : Nat) (f g : Nat → Int) (w : World) (hu : Nums .u64 w u n f) (hv : Nums .u64 w v m g) (hf : U64 n f) (hg : U64 m g) (hx : nl W32 (num f n) ≤ 200000) (hy : nl W32 (num g m) ≤ 200000) (ht : Tab w) :
    Calls Tryd.prog 10 #[u, v] w fun e w' => ∃ r, e = .returned r ∧ Rep w' r (lcmOf (num f n) (num g m)) ∧ Below w.heap.size w w' := by
  obtain ⟨L, hL⟩ : ∃ L, L = lcmOf (num f n) (num g m) := ⟨_, rfl⟩
  rw [← hL]
  have HLL : Hid (L = lcmOf (num f n) (num g m)) := hL
  clear hL
  go_enter Tryd.func10, Tryd.ntmps10
  go_wp2_with fail
  refine (plain_any _ _ _ _ hu hf).mono ?_
  rintro e w1 ⟨r1, rfl, hr1, hb1⟩
  go_wp2_with fail
  refine (plain_any _ _ _ _ (Nums.below hv hb1) hg).mono ?_
  rintro e w2 ⟨r2, rfl, hr2, hb2⟩
  replace hr1 : Rep w2 r1 (num f n) := Nums.below hr1 hb2
  have B2 := hb1.trans (hb2.mono hb1.size)
  have ht2 : Tab w2 := ht.below B2
  clear hb1 hb2 hu hv hf hg ht
  generalize num f n = x at *
  generalize num g m = y at *
  obtain ⟨ao, c, rfl, hl⟩ := rep_val hr1
  obtain ⟨bo, d, rfl, kl⟩ := rep_val hr2
  by_cases hx0 : x = 0
  · subst hx0
    rw [nl_zero]
    go_wp2
    go_ret
    exact ⟨_, rfl, by rw [HLL.out]; unfold lcmOf; rw [Nat.zero_div, Nat.zero_mul]; exact zero_form _, B2⟩
  · have k1 : (((nl W32 x : Nat) : Int) == 0) = false := by
      have := mt (nl_eq_zero W32 x (by decide)).1 hx0
      simp; omega
    by_cases hy0 : y = 0
    · subst hy0
      rw [nl_zero]
      clear hx0
      go_wp2
      go_ret
      exact ⟨_, rfl, by rw [HLL.out]; unfold lcmOf; rw [Nat.mul_zero]; exact zero_form _, B2⟩
    · have k2 : (((nl W32 y : Nat) : Int) == 0) = false := by
        have := mt (nl_eq_zero W32 y (by decide)).1 hy0
        simp; omega
      have hG0 : 0 < Nat.gcd x y := Nat.gcd_pos_of_pos_left _ (by omega)
      have hq : nl W32 (x / Nat.gcd x y) ≤ 200000 := Nat.le_trans (nl_le W32 _ _ (by decide) (Nat.lt_of_le_of_lt (Nat.div_le_self _ _) (lt_pow_nl W32 x (by decide)))) hx
      have HL : Hid (L = x / Nat.gcd x y * y) := HLL.out
      clear HLL
      clear hx0 hy0
      go_wp2_with fail
      refine (gcd_rep _ _ x y _ hr1 hr2 (by omega) (by omega) ht2).mono ?_
      rintro e w3 ⟨r3, rfl, hr3, hb3⟩
      generalize Nat.gcd x y = G at *
      have B3 := B2.trans (hb3.mono B2.size)
      go_wp2_with fail
      refine (divide_any x G hG0 (by omega) _ _ _ (Nums.below hr1 hb3) hr3).mono ?_
      rintro e w4 ⟨q, r, rfl, hq4, hr4, hb4⟩
      have B4 := B3.trans (hb4.mono B3.size)
      go_wp2_with fail
      refine (product_all (x / G) y (by omega) _ _ _ hq4.rep (Nums.below (Nums.below hr2 hb3) hb4)).mono ?_
      rintro e w5 ⟨r5, rfl, hr5, hb5⟩
      go_wp2
      go_ret
      exact ⟨_, rfl, by rw [HL.out]; exact hr5.rep, B4.trans (hb5.mono B4.size)⟩

set_option maxRecDepth 20000 in
set_option maxHeartbeats 1000000 in
theorem rgcd_any (u v : Value) (x y : Nat) (w : World) (hu : RepD w u x) (hv : RepD w v y) (hlx : nl 10000 x ≤ 400000) (hly : nl 10000 y ≤ 400000) :
    Calls Tryd.prog 7 #[u, v] w fun e w' => ∃ r, e = .returned r ∧ RepD w' r (Nat.gcd x y) ∧ Below w.heap.size w w' := by
  obtain ⟨G, hG⟩ : ∃ G, G = Nat.gcd x y := ⟨_, rfl⟩
  rw [← hG]
  have HG : Hid (Nat.gcd x y = G) := hG.symm
  clear hG
  go_enter Tryd.func7, Tryd.ntmps7
  go_wp2
  go_loopg [0, 1] y (fun k va vb wr => ∃ X : Nat, RepD wr va X ∧ RepD wr vb k ∧ nl 10000 X ≤ 400000 ∧ nl 10000 k ≤ 400000 ∧ Hid (Nat.gcd X k = G) ∧ Below w.heap.size w wr)
  case atStart => exact ⟨x, hu, hv, hlx, hly, HG, Below.refl _ _⟩
  case round =>
    clear hu hv hlx hly HG
    obtain ⟨X, hX, hY, hN, hM, hg, hB⟩ := hrel
    obtain ⟨Y, hgk⟩ : ∃ Y, Y = gk := ⟨_, rfl⟩
    have HGK : Hid (Y = gk) := hgk
    rw [← hgk] at hY hM hg
    clear hgk
    have hY' := hY
    obtain ⟨bo, d, rfl, kl⟩ := hY'
    clear kl
    by_cases h0 : Y = 0
    · subst h0
      have e1 : X = G := by rw [← hg.out, Nat.gcd_zero_right]
      subst e1
      rw [nl_zero]
      clear hg hY hM HGK
      go_wp2
      go_ret
      exact ⟨_, rfl, hX, hB⟩
    · have k1 : 0 < nl 10000 Y := by
        have := mt (nl_eq_zero 10000 Y (by decide)).1 h0
        omega
      have hY0 : 0 < Y := by omega
      clear h0
      go_wp2_with fail
      refine (over_any _ _ X Y _ hX hY hY0 hN hM).mono ?_
      rintro e w4 ⟨q, r, rfl, hq, hr, hb4⟩
      have hY4 := hY.below hb4
      have hrl : X % Y < Y := Nat.mod_lt _ hY0
      have hgr : Hid (Nat.gcd Y (X % Y) = G) := by
        show _ = _
        rw [← hg.out, Nat.gcd_comm X Y, Nat.gcd_rec Y X, Nat.gcd_comm]
      have hnr : nl 10000 (X % Y) ≤ 400000 := Nat.le_trans (nl_le 10000 _ _ (by decide) (Nat.lt_trans hrl (lt_pow_nl 10000 Y (by decide)))) hM
      have B4 : Below w.heap.size w w4 := hB.trans (hb4.mono hB.size)
      clear hq hb4 hX hY hN hg hB
      generalize X % Y = R at *
      go_wp2
      go_roundg R
      case measure => have := HGK.out; omega
      case rel => exact ⟨Y, hY4, hr, hM, hnr, hgr, B4⟩

end Go.Proofs.YthhabammejkjcaaDoor
