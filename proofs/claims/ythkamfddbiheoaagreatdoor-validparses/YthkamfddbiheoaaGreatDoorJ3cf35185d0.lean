/-
  Texts of mine.
-/
import Derived.Test.YthkamfddbiheoaaGreatDoorJ20f31d0675
import Derived.Test.YthkamfddbiheoaaGreatDoorJ58bd616bed
import Derived.Test.YthkamfddbiheoaaGreatDoorJ1a3af03185
import Derived.Deep.LoopGhost
namespace Go.Proofs.YthkamfddbiheoaaGreatDoor
open Go.RowKit
set_option linter.unusedVariables false

theorem nl_less (x M l : Nat) (h : x < M) (hl : nl W32 M ≤ l) : nl W32 x ≤ l :=
 nl_le W32 _ _ (by decide) (Nat.lt_trans h (Nat.lt_of_lt_of_le (lt_pow_nl W32 M (by decide)) (Nat.pow_le_pow_right (by decide) hl)))
theorem small_nl (x : Nat) (h : nl W32 x ≤ 2) : x < 18446744073709551616 := by
 have h1 := lt_pow_nl W32 x (by decide)
 have h2 : W32 ^ nl W32 x ≤ W32 ^ 2 := Nat.pow_le_pow_right (by decide) h
 have h3 : W32 ^ 2 = 18446744073709551616 := rfl
 omega

set_option maxRecDepth 20000 in
set_option maxHeartbeats 2000000 in
theorem gcd_any (u v : Value) (n m : Nat) (f g : Nat → Int) (w : World) (hu : Nums .u64 w u n f) (hv : Nums .u64 w v m g) (hf : U64 n f) (hg : U64 m g) (hx : nl W32 (num f n) ≤ 900000) (hy : nl W32 (num g m) ≤ 900000) (ht : Tab w) :
  Calls Tryz.prog 80 #[u, v] w fun e w' => ∃ r, e = .returned r ∧ Rep w' r (Nat.gcd (num f n) (num g m)) ∧ Below w.heap.size w w' := by
 obtain ⟨G, hG⟩ : ∃ G, G = Nat.gcd (num f n) (num g m) := ⟨_, rfl⟩
 rw [← hG]
 have HGG : Hid (G = Nat.gcd (num f n) (num g m)) := hG
 clear hG
 go_enter Tryz.func80, Tryz.ntmps80
 go_wp2_with fail
 refine (clean_any _ _ _ _ hu hf).mono ?_
 rintro e w1 ⟨r1, rfl, hr1, hb1⟩
 go_wp2_with fail
 refine (clean_any _ _ _ _ (Nums.below hv hb1) hg).mono ?_
 rintro e w2 ⟨r2, rfl, hr2, hb2⟩
 replace hr1 : Rep w2 r1 (num f n) := Nums.below (Mine.nums hr1) hb2
 replace hr2 : Rep w2 r2 (num g m) := Mine.nums hr2
 have B2 := hb1.trans (hb2.mono hb1.size)
 clear hb1 hb2 hu hv hf hg
 generalize num f n = x at *
 generalize num g m = y at *
 go_wp2_with fail
 refine (cmp_rep _ _ _ _ _ hr1 hr2).mono ?_
 rintro e w3 ⟨rfl, hb3⟩
 have B3 := B2.trans (hb3.mono B2.size)
 replace hr1 : Rep w3 r1 x := Nums.below hr1 hb3
 replace hr2 : Rep w3 r2 y := Nums.below hr2 hb3
 have ht3 : Tab w3 := ht.below B3
 clear hb3 B2 ht
 by_cases hlt : x < y
 ·have hc : cmpI x y = -1 := cmpI_lt (by omega)
  have HG : Hid (Nat.gcd y x = G) := by show _ = _; rw [Nat.gcd_comm]; exact HGG.out.symm
  clear HGG
  rw [hc]
  go_wp2
  go_loopg [0, 1] x (fun k va vb wr => ∃ X : Nat, Rep wr va X ∧ Rep wr vb k ∧ k ≤ X ∧ nl W32 X ≤ 900000 ∧ Hid (Nat.gcd X k = G) ∧ Tab wr ∧ Below w.heap.size w wr)
  case atStart => exact ⟨y, hr2, hr1, by omega, by assumption, HG, ht3, B3⟩
  case round =>
   clear hr1 hr2 ht3 B3 HG hc
   obtain ⟨X, hX, hY, hle, hN, hg, hT, hB⟩ := hrel
   obtain ⟨Y, hgk⟩ : ∃ Y, Y = gk := ⟨_, rfl⟩
   have HGK : Hid (Y = gk) := hgk
   rw [← hgk] at hY hle hg
   clear hgk
   obtain ⟨ao, c, rfl, hl⟩ := rep_val hX
   obtain ⟨bo, d, rfl, kl⟩ := rep_val hY
   have hnn : nl W32 Y ≤ nl W32 X := nl_le W32 Y _ (by decide) (Nat.lt_of_le_of_lt hle (lt_pow_nl W32 X (by decide)))
   by_cases h2 : 2 < nl W32 Y
   ·obtain ⟨m, hm⟩ : ∃ m, nl W32 X = m + 3 := ⟨nl W32 X - 3, by omega⟩
    have HM : Hid (nl W32 X = m + 3) := hm
    have hm9 : m ≤ 900000 := by omega
    have hY0 : 0 < Y := by
     rcases Nat.eq_zero_or_pos Y with e | e
     ·rw [e, nl_zero] at h2; omega
     ·exact e
    clear hm
    go_wp2_with fail
    refine (nearer_any _ _ X Y m _ hX hY hle HM.out hY0 hm9).mono ?_
    rintro e w4 ⟨X4, Y4, rx, ry, rfl, hrx, hry, h41, h42, h43, h44, hb4⟩
    have HG4 : Hid (Nat.gcd X4 Y4 = G) := h44.trans hg.out
    clear h44
    go_wp2
    go_roundg Y4
    case measure => have := HGK.out; omega
    case rel =>
     refine ⟨X4, hrx, hry, h41, ?_, HG4, hT.below hb4, hB.trans (hb4.mono hB.size)⟩
     have := nl_le W32 X4 _ (by decide) (Nat.lt_of_le_of_lt (Nat.le_trans h43 hle) (lt_pow_nl W32 X (by decide)))
     omega
   ·by_cases h0 : nl W32 Y = 0
    ·have hY0 := (nl_eq_zero W32 Y (by decide)).1 h0
     have e1 : X = G := by rw [← hg.out, hY0, Nat.gcd_zero_right]
     subst e1
     rw [h0]
     clear hg hle hnn hY hY0 kl h2 HGK
     go_wp2
     go_ret
     exact ⟨_, rfl, hX, hB⟩
    ·have k1 : (((nl W32 Y : Nat) : Int) == 0) = false := by simp; omega
     have hY0 : 0 < Y := by
      rcases Nat.eq_zero_or_pos Y with e | e
      ·rw [e, nl_zero] at h0; omega
      ·exact e
     by_cases h3 : 2 < nl W32 X
     ·go_wp2_with fail
      refine (divide_any X Y hY0 (by omega) _ _ _ hX hY).mono ?_
      rintro e w4 ⟨q, r, rfl, hq, hr, hb4⟩
      have B4 := hB.trans (hb4.mono hB.size)
      have T4 := hT.below hb4
      have hY4 : Rep w4 (.slice bo (nl W32 Y) d) Y := Nums.below hY hb4
      have hR4 : Rep w4 r (X % Y) := hr.rep
      have hrl : X % Y < Y := Nat.mod_lt _ hY0
      have hgr : Hid (Nat.gcd Y (X % Y) = G) := by
       show _ = _
       rw [← hg.out, Nat.gcd_comm X Y, Nat.gcd_rec Y X, Nat.gcd_comm]
      clear hr hq hb4 hX hY hT hB hle hnn hg
      generalize X % Y = R at *
      have hP2 : nl W32 Y ≤ 2 := by omega
      have hQ2 : nl W32 R ≤ 2 := nl_less R Y 2 hrl hP2
      have hP1 := small_nl Y hP2
      have hQ1 := small_nl R hQ2
      have hP0 := hY0
      have hGl : G ≤ Y := by rw [← hgr.out]; exact Nat.gcd_le_left _ hY0
      go_wp2_with fail
      refine (to_rep _ Y _ hY4 hP2).mono ?_
      rintro e w5 ⟨rfl, hw⟩
      subst hw
      go_wp2_with fail
      refine (to_rep _ R _ hR4 hQ2).mono ?_
      rintro e w6 ⟨rfl, hw⟩
      subst hw
      go_wp2_with fail
      refine (smallGcd_any Y R _ hP0 hP1 hQ1 T4).mono ?_
      rintro e w7 ⟨rfl, hw⟩
      subst hw
      rw [hgr.out]
      go_wp2_with fail
      refine (of_any (G : Int) _ (by omega) (by omega)).mono ?_
      rintro e w8 ⟨v8, rfl, h8, hb8⟩
      go_wp2
      go_ret
      rw [Int.toNat_natCast] at h8
      exact ⟨_, rfl, Mine.nums h8, B4.trans (hb8.mono B4.size)⟩
     ·have hP2 : nl W32 X ≤ 2 := by omega
      have hQ2 : nl W32 Y ≤ 2 := by omega
      have hP1 := small_nl X hP2
      have hQ1 := small_nl Y hQ2
      have hP0 : 0 < X := by omega
      have hGl : G ≤ X := by rw [← hg.out]; exact Nat.gcd_le_left _ hP0
      go_wp2_with fail
      refine (to_rep _ X _ hX hP2).mono ?_
      rintro e w5 ⟨rfl, hw⟩
      subst hw
      go_wp2_with fail
      refine (to_rep _ Y _ hY hQ2).mono ?_
      rintro e w6 ⟨rfl, hw⟩
      subst hw
      go_wp2_with fail
      refine (smallGcd_any X Y _ hP0 hP1 hQ1 hT).mono ?_
      rintro e w7 ⟨rfl, hw⟩
      subst hw
      rw [hg.out]
      go_wp2_with fail
      refine (of_any (G : Int) _ (by omega) (by omega)).mono ?_
      rintro e w8 ⟨v8, rfl, h8, hb8⟩
      go_wp2
      go_ret
      rw [Int.toNat_natCast] at h8
      exact ⟨_, rfl, Mine.nums h8, hB.trans (hb8.mono hB.size)⟩
 ·have hc : ¬ cmpI x y < 0 := by unfold cmpI; rw [if_neg (by omega)]; split <;> omega
  have HG : Hid (Nat.gcd x y = G) := HGG.out.symm
  clear HGG
  go_wp2
  go_loopg [0, 1] y (fun k va vb wr => ∃ X : Nat, Rep wr va X ∧ Rep wr vb k ∧ k ≤ X ∧ nl W32 X ≤ 900000 ∧ Hid (Nat.gcd X k = G) ∧ Tab wr ∧ Below w.heap.size w wr)
  case atStart => exact ⟨x, hr1, hr2, by omega, by assumption, HG, ht3, B3⟩
  case round =>
   clear hr1 hr2 ht3 B3 HG hc
   obtain ⟨X, hX, hY, hle, hN, hg, hT, hB⟩ := hrel
   obtain ⟨Y, hgk⟩ : ∃ Y, Y = gk := ⟨_, rfl⟩
   have HGK : Hid (Y = gk) := hgk
   rw [← hgk] at hY hle hg
   clear hgk
   obtain ⟨ao, c, rfl, hl⟩ := rep_val hX
   obtain ⟨bo, d, rfl, kl⟩ := rep_val hY
   have hnn : nl W32 Y ≤ nl W32 X := nl_le W32 Y _ (by decide) (Nat.lt_of_le_of_lt hle (lt_pow_nl W32 X (by decide)))
   by_cases h2 : 2 < nl W32 Y
   ·obtain ⟨m, hm⟩ : ∃ m, nl W32 X = m + 3 := ⟨nl W32 X - 3, by omega⟩
    have HM : Hid (nl W32 X = m + 3) := hm
    have hm9 : m ≤ 900000 := by omega
    have hY0 : 0 < Y := by
     rcases Nat.eq_zero_or_pos Y with e | e
     ·rw [e, nl_zero] at h2; omega
     ·exact e
    clear hm
    go_wp2_with fail
    refine (nearer_any _ _ X Y m _ hX hY hle HM.out hY0 hm9).mono ?_
    rintro e w4 ⟨X4, Y4, rx, ry, rfl, hrx, hry, h41, h42, h43, h44, hb4⟩
    have HG4 : Hid (Nat.gcd X4 Y4 = G) := h44.trans hg.out
    clear h44
    go_wp2
    go_roundg Y4
    case measure => have := HGK.out; omega
    case rel =>
     refine ⟨X4, hrx, hry, h41, ?_, HG4, hT.below hb4, hB.trans (hb4.mono hB.size)⟩
     have := nl_le W32 X4 _ (by decide) (Nat.lt_of_le_of_lt (Nat.le_trans h43 hle) (lt_pow_nl W32 X (by decide)))
     omega
   ·by_cases h0 : nl W32 Y = 0
    ·have hY0 := (nl_eq_zero W32 Y (by decide)).1 h0
     have e1 : X = G := by rw [← hg.out, hY0, Nat.gcd_zero_right]
     subst e1
     rw [h0]
     clear hg hle hnn hY hY0 kl h2 HGK
     go_wp2
     go_ret
     exact ⟨_, rfl, hX, hB⟩
    ·have k1 : (((nl W32 Y : Nat) : Int) == 0) = false := by simp; omega
     have hY0 : 0 < Y := by
      rcases Nat.eq_zero_or_pos Y with e | e
      ·rw [e, nl_zero] at h0; omega
      ·exact e
     by_cases h3 : 2 < nl W32 X
     ·go_wp2_with fail
      refine (divide_any X Y hY0 (by omega) _ _ _ hX hY).mono ?_
      rintro e w4 ⟨q, r, rfl, hq, hr, hb4⟩
      have B4 := hB.trans (hb4.mono hB.size)
      have T4 := hT.below hb4
      have hY4 : Rep w4 (.slice bo (nl W32 Y) d) Y := Nums.below hY hb4
      have hR4 : Rep w4 r (X % Y) := hr.rep
      have hrl : X % Y < Y := Nat.mod_lt _ hY0
      have hgr : Hid (Nat.gcd Y (X % Y) = G) := by
       show _ = _
       rw [← hg.out, Nat.gcd_comm X Y, Nat.gcd_rec Y X, Nat.gcd_comm]
      clear hr hq hb4 hX hY hT hB hle hnn hg
      generalize X % Y = R at *
      have hP2 : nl W32 Y ≤ 2 := by omega
      have hQ2 : nl W32 R ≤ 2 := nl_less R Y 2 hrl hP2
      have hP1 := small_nl Y hP2
      have hQ1 := small_nl R hQ2
      have hP0 := hY0
      have hGl : G ≤ Y := by rw [← hgr.out]; exact Nat.gcd_le_left _ hY0
      go_wp2_with fail
      refine (to_rep _ Y _ hY4 hP2).mono ?_
      rintro e w5 ⟨rfl, hw⟩
      subst hw
      go_wp2_with fail
      refine (to_rep _ R _ hR4 hQ2).mono ?_
      rintro e w6 ⟨rfl, hw⟩
      subst hw
      go_wp2_with fail
      refine (smallGcd_any Y R _ hP0 hP1 hQ1 T4).mono ?_
      rintro e w7 ⟨rfl, hw⟩
      subst hw
      rw [hgr.out]
      go_wp2_with fail
      refine (of_any (G : Int) _ (by omega) (by omega)).mono ?_
      rintro e w8 ⟨v8, rfl, h8, hb8⟩
      go_wp2
      go_ret
      rw [Int.toNat_natCast] at h8
      exact ⟨_, rfl, Mine.nums h8, B4.trans (hb8.mono B4.size)⟩
     ·have hP2 : nl W32 X ≤ 2 := by omega
      have hQ2 : nl W32 Y ≤ 2 := by omega
      have hP1 := small_nl X hP2
      have hQ1 := small_nl Y hQ2
      have hP0 : 0 < X := by omega
      have hGl : G ≤ X := by rw [← hg.out]; exact Nat.gcd_le_left _ hP0
      go_wp2_with fail
      refine (to_rep _ X _ hX hP2).mono ?_
      rintro e w5 ⟨rfl, hw⟩
      subst hw
      go_wp2_with fail
      refine (to_rep _ Y _ hY hQ2).mono ?_
      rintro e w6 ⟨rfl, hw⟩
      subst hw
      go_wp2_with fail
      refine (smallGcd_any X Y _ hP0 hP1 hQ1 hT).mono ?_
      rintro e w7 ⟨rfl, hw⟩
      subst hw
      rw [hg.out]
      go_wp2_with fail
      refine (of_any (G : Int) _ (by omega) (by omega)).mono ?_
      rintro e w8 ⟨v8, rfl, h8, hb8⟩
      go_wp2
      go_ret
      rw [Int.toNat_natCast] at h8
      exact ⟨_, rfl, Mine.nums h8, hB.trans (hb8.mono hB.size)⟩

end Go.Proofs.YthkamfddbiheoaaGreatDoor
