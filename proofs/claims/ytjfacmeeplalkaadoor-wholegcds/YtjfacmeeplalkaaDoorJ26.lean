/-
  Texts of mine, joined: what lies beneath the statement.
-/
import Derived.Test.YtjfacmeeplalkaaDoorJ21
import Derived.Test.YtjfacmeeplalkaaDoorJ25
/-
  What whole.euclid and whole.Gcd answer.
-/
namespace Go.Proofs.YtjfacmeeplalkaaDoor
open Go.RowKit
set_option linter.unusedVariables false

/-- What euclid keeps: the two numbers are their multiples of the first but for multiples of the second; the amounts stay small. -/
structure Eu (x y A B P Q : Nat) (neg : Bool) : Prop where
  a : ∃ s : Int, (A : Int) = zof neg P * x + s * y
  b : ∃ t : Int, (B : Int) = zof (!neg) Q * x + t * y
  g : Nat.gcd A B = Nat.gcd x y
  s : P * B + Q * A = y
  p : P ≤ y + 1
  q : Q ≤ y + 1
  m : A ≤ x + y
  l : B ≤ y

theorem Eu.start (x y : Nat) : Eu x y x y 1 0 false := by
  refine ⟨⟨0, ?_⟩, ⟨1, ?_⟩, rfl, by omega, by omega, by omega, by omega, by omega⟩
  · rw [zof_false]; omega
  · rw [show (!false) = true from rfl, zof_true]; omega

theorem Eu.next {x y A B P Q : Nat} {neg : Bool} (h : Eu x y A B P Q neg) (hB : 0 < B) : Eu x y B (A % B) Q (P + A / B * Q) (!neg) := by
  have hd := Nat.div_add_mod A B
  have hs := h.s
  have key : Q * (A % B) + (P + A / B * Q) * B = y := by
    generalize A / B = q at *
    generalize A % B = r at *
    subst hd
    rw [← hs]; grind
  refine ⟨h.b, ?_, ?_, key, h.q, ?_, by have := h.l; omega, ?_⟩
  · obtain ⟨s, hs'⟩ := h.a
    obtain ⟨t, ht⟩ := h.b
    refine ⟨s - (A / B : Nat) * t, ?_⟩
    have hr : ((A % B : Nat) : Int) = (A : Int) - (A / B : Nat) * (B : Int) := by
      have : ((B * (A / B) + A % B : Nat) : Int) = (A : Int) := by rw [hd]
      rw [Int.natCast_add, Int.natCast_mul] at this
      grind
    rw [hr, hs', ht, Bool.not_not, zof_add]
    have e : zof neg (A / B * Q) = -((A / B : Nat) * zof (!neg) Q : Int) := by
      rw [zof_not]; cases neg <;> simp [zof] <;> grind
    rw [e]; grind
  · rw [← h.g, Nat.gcd_comm A B, Nat.gcd_rec B A, Nat.gcd_comm]
  · have : P + A / B * Q ≤ (P + A / B * Q) * B := Nat.le_mul_of_pos_right _ hB
    omega
  · have := Nat.mod_lt A hB; have := h.l; omega

/-- What euclid answers. -/
def EuOut (x y B : Nat) (w : World) (e : Ending) (w' : World) : Prop :=
  ∃ (rg rx : Value) (X s : Int), e = .returned (.tuple #[rg, rx]) ∧ RepI w' rg ((Nat.gcd x y : Nat) : Int) ∧ RepI w' rx X ∧ ((Nat.gcd x y : Nat) : Int) = X * x + s * y ∧ X.natAbs ≤ y + 1 ∧ Below B w w'

theorem nl_up (x y : Nat) (h : x ≤ y + 1) : nl W32 x ≤ nl W32 y + 1 := by
  refine nl_le W32 _ _ (by decide) ?_
  have h1 := lt_pow_nl W32 y (by decide)
  have h2 : 1 ≤ W32 ^ nl W32 y := Nat.pow_pos (by decide)
  rw [Nat.pow_succ]
  generalize W32 ^ nl W32 y = E at *
  unfold W32; omega

theorem nl_sum (x y A k : Nat) (hx : nl W32 x ≤ k) (hy : nl W32 y ≤ k) (h : A ≤ x + y) : nl W32 A ≤ k + 1 := by
  refine nl_le W32 _ _ (by decide) ?_
  have e1 := Nat.lt_of_lt_of_le (lt_pow_nl W32 x (by decide)) (Nat.pow_le_pow_right (n := W32) (by decide) hx)
  have e2 := Nat.lt_of_lt_of_le (lt_pow_nl W32 y (by decide)) (Nat.pow_le_pow_right (n := W32) (by decide) hy)
  rw [Nat.pow_succ]
  generalize W32 ^ k = E at *
  unfold W32; omega

set_option maxRecDepth 20000 in
set_option maxHeartbeats 2000000 in
theorem euclid_any (u v : Value) (n m : Nat) (f g : Nat → Int) (w : World) (hu : Nums .u64 w u n f) (hv : Nums .u64 w v m g) (hf : U64 n f) (hg : U64 m g) (hx : nl W32 (num f n) ≤ 1000) (hy : nl W32 (num g m) ≤ 1000) :
    Calls Tryd.prog 18 #[u, v] w fun e w' => EuOut (num f n) (num g m) w.heap.size w e w' := by
  obtain ⟨x, hx'⟩ : ∃ x, x = num f n := ⟨_, rfl⟩
  obtain ⟨y, hy'⟩ : ∃ y, y = num g m := ⟨_, rfl⟩
  have HCU : Hid (∀ W, Below w.heap.size w W → Calls Tryd.prog 36 #[u] W fun e w' => ∃ v', e = .returned v' ∧ RepM W.heap.size w' v' x ∧ Below W.heap.size W w') := fun W hb => by
    rw [hx']; exact clean_any _ _ _ W (hu.below hb) hf
  have HCV : Hid (∀ W, Below w.heap.size w W → Calls Tryd.prog 36 #[v] W fun e w' => ∃ v', e = .returned v' ∧ RepM W.heap.size w' v' y ∧ Below W.heap.size W w') := fun W hb => by
    rw [hy']; exact clean_any _ _ _ W (hv.below hb) hg
  rw [← hx', ← hy']
  rw [← hx'] at hx
  rw [← hy'] at hy
  clear hx' hy' hu hv hf hg
  have b0 : Below w.heap.size w (w.alloc (.cells #[.bool false, .slice none 0 0] 25)) := (Below.refl _ _).alloc (Nat.le_refl _) _
  have b1 : Below (w.heap.size + 1) (w.alloc (.cells #[.bool false, .slice none 0 0] 25)) ((w.alloc (.cells #[.bool false, .slice none 0 0] 25)).alloc (.cells #[.bool false, .slice none 0 0] 25)) := (Below.refl _ _).alloc (by simp) _
  have k1 := keepW b1 (by simp) (resW w 25 (.bool false) (.slice none 0 0))
  have k2 := res1 w (.cells #[.bool false, .slice none 0 0] 25) 25 (.bool false) (.slice none 0 0)
  have B0 := b0.trans (b1.mono (by omega))
  have hs0 : ((w.alloc (.cells #[.bool false, .slice none 0 0] 25)).alloc (.cells #[.bool false, .slice none 0 0] 25)).heap.size = w.heap.size + 1 + 1 := by simp
  clear b0 b1
  have HK : Hid (((w.alloc (.cells #[.bool false, .slice none 0 0] 25)).alloc (.cells #[.bool false, .slice none 0 0] 25)).heap.size = w.heap.size + 1 + 1) := hs0
  clear hs0
  go_enter Tryd.func18, Tryd.ntmps18
  go_wp2_with fail
  generalize (w.alloc (.cells #[.bool false, .slice none 0 0] 25)).alloc (.cells #[.bool false, .slice none 0 0] 25) = W0 at *
  refine (HCU.out _ B0).mono ?_
  rintro e w1 ⟨r1, rfl, hr1, hb1⟩
  have B1 : Below w.heap.size w w1 := B0.trans (hb1.mono B0.size)
  have C1 := hb1
  go_wp2_with fail
  refine (HCV.out _ B1).mono ?_
  rintro e w2 ⟨r2, rfl, hr2, hb2⟩
  have C2 := C1.trans (hb2.mono C1.size)
  replace hr1 : Rep w2 r1 x := Nums.below hr1.rep hb2
  replace hr2 : Rep w2 r2 y := hr2.rep
  clear B1 C1 hb1 hb2 HCU HCV
  go_wp2_with fail
  refine (of_any 1 _ (by omega) (by omega)).mono ?_
  rintro e w3 ⟨r3, rfl, hr3, hb3⟩
  have C3 := C2.trans (hb3.mono C2.size)
  replace hr1 : Rep w3 r1 x := Nums.below hr1 hb3
  replace hr2 : Rep w3 r2 y := Nums.below hr2 hb3
  replace hr3 : Rep w3 r3 1 := hr3.nums
  go_wp2_with fail
  refine (of_any 0 _ (by omega) (by omega)).mono ?_
  rintro e w4 ⟨r4, rfl, hr4, hb4⟩
  have C4 := C3.trans (hb4.mono C3.size)
  replace hr1 : Rep w4 r1 x := Nums.below hr1 hb4
  replace hr2 : Rep w4 r2 y := Nums.below hr2 hb4
  replace hr3 : Rep w4 r3 1 := Nums.below hr3 hb4
  replace hr4 : Rep w4 r4 0 := hr4.nums
  clear C2 C3 hb3 hb4
  have HE : Hid (Eu x y x y 1 0 false) := Eu.start x y
  go_wp2
  go_loopg [0, 1, 6, 7, 8] y (fun k va vb vp vq vn wr => ∃ (A P Q : Nat) (neg : Bool), vn = .bool neg ∧ Rep wr va A ∧ Rep wr vb k ∧ Rep wr vp P ∧ Rep wr vq Q ∧ Hid (Eu x y A k P Q neg) ∧ Below W0.heap.size W0 wr)
  case atStart => exact ⟨x, 1, 0, false, rfl, hr1, hr2, hr3, hr4, HE, C4⟩
  case round =>
    clear hr1 hr2 hr3 hr4 HE C4
    obtain ⟨A, P, Q, neg, rfl, hA, hB, hP, hQ, hE, C⟩ := hrel
    obtain ⟨b, hgk⟩ : ∃ b, b = gk := ⟨_, rfl⟩
    have HGK : Hid (b = gk) := hgk
    rw [← hgk] at hB hE
    clear hgk
    have hPl := Nat.le_trans (nl_up P y hE.out.p) (show nl W32 y + 1 ≤ 1001 by omega)
    have hQl := Nat.le_trans (nl_up Q y hE.out.q) (show nl W32 y + 1 ≤ 1001 by omega)
    have hAl : nl W32 A ≤ 2002 := Nat.le_trans (nl_sum x y A _ hx hy hE.out.m) (by omega)
    have hbl : nl W32 b ≤ 1000 := Nat.le_trans (nl_mono W32 b y (by decide) hE.out.l) hy
    go_wp2_with fail
    refine (nat_zero_rep hB).mono ?_
    rintro e wz ⟨rfl, hw⟩
    subst hw
    by_cases h0 : b = 0
    · rw [decide_eq_true h0]
      have hG : Hid (A = Nat.gcd x y ∧ ∃ s : Int, (A : Int) = zof neg P * x + s * y) := ⟨by rw [← hE.out.g, h0, Nat.gcd_zero_right], hE.out.a⟩
      have hPy := hE.out.p
      clear hE hQ hB h0 HGK hQl hAl hbl hPl
      go_wp2_with fail
      refine (signed_any false _ _ _ hA).mono ?_
      rintro e w5 ⟨r5, rfl, hr5, hb5⟩
      have C5 := C.trans (hb5.mono C.size)
      go_wp2_with fail
      refine (signed_any neg _ _ _ (Nums.below hP hb5)).mono ?_
      rintro e w6 ⟨r6, rfl, hr6, hb6⟩
      have C6 := C5.trans (hb6.mono C5.size)
      replace hr5 := hr5.below hb6
      obtain ⟨p1, ao1, n1, c1, rfl⟩ := hr5.open
      obtain ⟨p2, ao2, n2, c2, rfl⟩ := hr6.open
      obtain ⟨q1, q2, q3, q4⟩ := keepW C6 (Nat.le_refl _) k1
      obtain ⟨q5, q6, q7, q8⟩ := keepW C6 (Nat.le_refl _) k2
      have BF : Below w.heap.size w w6 := B0.trans (C6.mono B0.size)
      clear C C5 C6 hb5 hb6 k1 k2 B0
      go_wp2
      (try simp only [Exit.inBlock, Exit.then])
      refine bodyPost_ret (v := .tuple #[.agg #[.bool p1, .slice ao1 n1 c1], .agg #[.bool p2, .slice ao2 n2 c2]]) (by simp [results, go_sem, q1, q2, q5, q6]) rfl ?_
      obtain ⟨eA, s, hs⟩ := hG.out
      rw [zof_false] at hr5
      refine ⟨_, _, zof neg P, s, rfl, ?_, hr6.store4 q1 q2 q5 q6 (by omega) _ _ _ _, ?_, by rw [zof_abs]; exact hPy, below_store2 (below_store2 BF (by omega) _ _) (by omega) _ _⟩
      · rw [← eA]; exact hr5.store4 q1 q2 q5 q6 (by omega) _ _ _ _
      · rw [← eA]; exact hs
    · rw [decide_eq_false h0]
      have hb0 : 0 < b := by omega
      have hE2 : Hid (Eu x y b (A % b) Q (P + A / b * Q) (!neg)) := hE.out.next hb0
      have hql : nl W32 (A / b) ≤ 2002 := Nat.le_trans (nl_mono W32 _ _ (by decide) (Nat.div_le_self _ _)) hAl
      have hpl : nl W32 (A / b * Q) ≤ 4000 := by
        refine Nat.le_trans (nl_up _ y ?_) (by omega)
        have := hE2.out.q; omega
      have hrl : A % b < b := Nat.mod_lt _ hb0
      have hDM : Hid (∀ W u v, Rep W u A → Rep W v b → Calls Tryd.prog 38 #[u, v] W fun e w' => ∃ q r, e = .returned (.tuple #[q, r, .int .i64 0]) ∧ RepM W.heap.size w' q (A / b) ∧ RepM W.heap.size w' r (A % b) ∧ Below W.heap.size W w') := fun W u v h1 h2 => by
        have h := divMod_of u v _ _ _ _ W h1 h2 (u64_dg A _) (u64_dg b _) (by rw [num_nl]; exact h0) (by rw [num_nl, num_nl]; exact divide_any A b hb0 (by omega))
        rw [num_nl, num_nl] at h; exact h
      clear hE h0
      go_wp2_with fail
      refine (hDM.out _ _ _ hA hB).mono ?_
      rintro e w5 ⟨qv, rv, rfl, hqv, hrv, hb5⟩
      have C5 := C.trans (hb5.mono C.size)
      replace hB : Rep w5 _ b := Nums.below hB hb5
      replace hP : Rep w5 _ P := Nums.below hP hb5
      replace hQ : Rep w5 _ Q := Nums.below hQ hb5
      replace hqv : Rep w5 qv (A / b) := hqv.rep
      replace hrv : Rep w5 rv (A % b) := hrv.rep
      clear hA hb5 C hDM
      generalize A / b = q at *
      generalize A % b = r at *
      go_wp2_with fail
      refine (mul_wide _ _ _ _ _ _ _ hqv hQ (u64_dg _ _) (u64_dg _ _) (by omega)).mono ?_
      rw [num_nl, num_nl]
      rintro e w6 ⟨r6, rfl, hr6, hb6⟩
      have C6 := C5.trans (hb6.mono C5.size)
      go_wp2_with fail
      refine (add_any _ _ _ _ _ _ _ (Nums.below hP hb6) hr6.nums (u64_dg _ _) (u64_dg _ _) (by omega) (by omega)).mono ?_
      rw [num_nl, num_nl]
      rintro e w7 ⟨r7, rfl, hr7, hb7⟩
      have C7 := C6.trans (hb7.mono C6.size)
      have g1 : Rep w7 _ b := Nums.below (Nums.below hB hb6) hb7
      have g2 : Rep w7 _ r := Nums.below (Nums.below hrv hb6) hb7
      have g3 : Rep w7 _ Q := Nums.below (Nums.below hQ hb6) hb7
      have g4 : Rep w7 _ (P + q * Q) := hr7.rep
      clear hB hrv hQ hr7 hP hqv hr6 hb6 hb7 C5 C6
      go_wp2
      go_roundg r
      case measure => have := HGK.out; omega
      case rel => exact ⟨b, Q, P + q * Q, !neg, rfl, g1, g2, g3, g4, hE2, C7⟩

set_option maxRecDepth 20000 in
set_option maxHeartbeats 2000000 in
theorem wgcd_any (u v : Value) (x y : Int) (L M : Nat) (w : World) (hu : IntAt w u x L) (hv : IntAt w v y M) (hL : L ≤ 900000) (hM : M ≤ 900000) (ht : Tab w) :
    Calls Tryd.prog 12 #[u, v] w fun e w' => ∃ r, e = .returned r ∧ RepI w' r ((Nat.gcd x.natAbs y.natAbs : Nat) : Int) ∧ Below w.heap.size w w' := by
  obtain ⟨p, ao, n, c, f, rfl, hu, hf, rfl, hn⟩ := hu
  obtain ⟨q, bo, m, d, g, rfl, hv, hg, rfl, hm⟩ := hv
  have hx : nl W32 (num f n) ≤ 900000 := Nat.le_trans (nl_le W32 _ _ (by decide) (num_lt f n)) (by omega)
  have hy : nl W32 (num g m) ≤ 900000 := Nat.le_trans (nl_le W32 _ _ (by decide) (num_lt g m)) (by omega)
  rw [zof_abs, zof_abs]
  have hA : ∀ o o' o'', Below w.heap.size w (((w.alloc o).alloc o').alloc o'') := fun o o' o'' => (((Below.refl _ _).alloc (Nat.le_refl _) _).alloc (by simp) _).alloc (by simp; omega) _
  have ne1 : ¬ w.heap.size = w.heap.size + 1 + 1 := by omega
  have ne2 : ¬ w.heap.size + 1 + 1 = w.heap.size := by omega
  obtain ⟨c1, c2, c3, c4⟩ := box_a w 25 25 25 (.bool p) (.slice ao n c) (.bool q) (.slice bo m d) (.bool false) (.slice none 0 0)
  go_enter Tryd.func12, Tryd.ntmps12
  go_wp2_with fail
  refine (gcd_any _ _ _ _ _ _ _ (hu.below (hA _ _ _)) (hv.below (hA _ _ _)) hf hg hx hy (ht.below (hA _ _ _))).mono ?_
  rintro e w1 ⟨s, rfl, hs, hb1⟩
  have hk1 := keepW hb1 (by simp) (res2 w _ _ _ _ _)
  go_wp2_with fail
  refine (signed_any false _ _ _ hs).mono ?_
  rintro e w2 ⟨r, rfl, hr, hb2⟩
  obtain ⟨b2, ao2, n2, e2, rfl⟩ := hr.open
  obtain ⟨q1, q2, q3, q4⟩ := keepW hb2 (Nat.le_refl _) hk1
  have B1 := (hA _ _ _).trans (hb1.mono (by simp; omega))
  have B2 := B1.trans (hb2.mono B1.size)
  go_wp2
  (try simp only [Exit.inBlock, Exit.then])
  refine bodyPost_ret (v := .agg #[.bool b2, .slice ao2 n2 e2]) (by simp [results, go_sem, q1, q2]) rfl ?_
  rw [zof_false] at hr
  exact ⟨_, rfl, hr.store2 q1 q2 _ _, below_store2 B2 (by omega) _ _⟩

end Go.Proofs.YtjfacmeeplalkaaDoor
