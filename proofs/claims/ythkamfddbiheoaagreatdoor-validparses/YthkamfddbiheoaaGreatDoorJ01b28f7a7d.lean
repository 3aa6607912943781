/-
  Texts of mine.
-/
import Derived.Test.YthkamfddbiheoaaGreatDoorJ1a3af03185
import Derived.WalkSmall
import Derived.Test.YthkamfddbiheoaaGreatDoorJa607d653bf
import Derived.Test.YthkamfddbiheoaaGreatDoorJ5e1350a8ca
namespace Go.Proofs.YthkamfddbiheoaaGreatDoor
open Go.RowKit

set_option maxRecDepth 20000 in
set_option maxHeartbeats 4000000 in
set_option maxRecDepth 100000 in
theorem len64_any (x : Int) (w : World) (h0 : 0 ≤ x) (h1 : x ≤ 4294967295) :
  Calls Tryz.prog 155 #[.int .u64 x] w fun e w' => e = .returned (.int .i64 (Lib.bitLen x.toNat)) ∧ w' = w := by
 have hs := len8tab_size
 have hn : ¬ (4294967296 : Int) ≤ x := by omega
 go_enter Tryz.func155, Tryz.ntmps155
 go_wp2
 all_goals (go_ret; refine ⟨congrArg Ending.returned (congrArg (Value.int IntKind.i64) ?_), rfl⟩)
 ·exact len_case x (x / 65536 / 256) 24 (x.toNat / 16777216) (by omega) (by omega) (by omega) (Lib.bitLen_shift24 x.toNat (by omega) (by omega))
 ·exact len_case x (x / 65536) 16 (x.toNat / 65536) (by omega) (by omega) (by omega) (Lib.bitLen_shift16 x.toNat (by omega) (by omega))
 ·exact len_case x (x / 256) 8 (x.toNat / 256) (by omega) (by omega) (by omega) (Lib.bitLen_shift8 x.toNat (by omega) (by omega))
 ·have := len_case x x 0 x.toNat (by omega) (by omega) rfl (by omega) (h := by omega)
  rw [Int.natCast_zero, Int.zero_add] at this
  exact this

/-- A number's bits, by its highest limb's. -/
theorem len_top (x m : Nat) (hm : nl W32 x = m + 1) : 2 ^ (32 * m + Lib.bitLen (dg W32 x m).toNat - 1) ≤ x ∧ x < 2 ^ (32 * m + Lib.bitLen (dg W32 x m).toNat) ∧ 0 < Lib.bitLen (dg W32 x m).toNat ∧ Lib.bitLen (dg W32 x m).toNat ≤ 32 := by
 have hlt := lt_pow_nl W32 x (by decide)
 have hge := pow_le_of_nl W32 x (by omega)
 rw [hm] at hlt hge
 rw [show m + 1 - 1 = m by omega] at hge
 have hP : 0 < W32 ^ m := Nat.pow_pos (by decide)
 have e2 : W32 ^ (m + 1) = W32 ^ m * 4294967296 := Nat.pow_succ _ _
 have etop : (dg W32 x m).toNat = x / W32 ^ m := by
  unfold dg
  rw [Int.toNat_natCast, Nat.mod_eq_of_lt]
  exact Nat.div_lt_of_lt_mul (by rw [e2] at hlt; exact hlt)
 rw [etop]
 have hdm := Nat.div_add_mod x (W32 ^ m)
 have hml := Nat.mod_lt x hP
 have ht1 : 1 ≤ x / W32 ^ m := (Nat.le_div_iff_mul_le hP).2 (by omega)
 have ht2 : x / W32 ^ m < 4294967296 := Nat.div_lt_of_lt_mul (by rw [e2] at hlt; exact hlt)
 generalize x / W32 ^ m = t at *
 generalize x % W32 ^ m = r at *
 obtain ⟨b1, b2, b3⟩ := bitLen_pow t (by omega) (by omega)
 have b4 : Lib.bitLen t ≤ 32 := Lib.bitLen_le t 32 (by omega) (by omega)
 generalize Lib.bitLen t = L at *
 have eP : W32 ^ m = 2 ^ (32 * m) := by rw [Nat.pow_mul]
 have p1 : 2 ^ (32 * m + L - 1) = 2 ^ (32 * m) * 2 ^ (L - 1) := by rw [← Nat.pow_add]; congr 1; omega
 have p2 : 2 ^ (32 * m + L) = 2 ^ (32 * m) * 2 ^ L := Nat.pow_add _ _ _
 rw [p1, p2, ← eP]
 clear p1 p2 eP
 generalize W32 ^ m = P at *
 have h1 : P * 2 ^ (L - 1) ≤ P * t := Nat.mul_le_mul_left _ b1
 have h2 : P * (t + 1) ≤ P * 2 ^ L := Nat.mul_le_mul_left _ b2
 rw [Nat.mul_add, Nat.mul_one] at h2
 exact ⟨by omega, by omega, b3, b4⟩

set_option maxRecDepth 20000 in
set_option maxHeartbeats 400000 in
theorem blen_any (x : Int) (w : World) (h0 : 0 ≤ x) (h1 : x ≤ 4294967295) :
  Calls Tryz.prog 182 #[.int .u64 x] w fun e w' => e = .returned (.int .i64 (Lib.bitLen x.toNat)) ∧ w' = w := by
 go_enter Tryz.func182, Tryz.ntmps182
 go_wp2_with (go_at_call 155; refine (len64_any x _ h0 h1).mono ?_; rintro e w2 ⟨rfl, hw2⟩; subst hw2)
 go_ret
 exact ⟨rfl, rfl⟩

theorem two63' : (2 : Int) ^ 63 = 9223372036854775808 := by decide
theorem and_one_int (i : Nat) (hi : i < 9223372036854775808) : bits BinOp.and IntKind.i64 (i : Int) 1 = ((i % 2 : Nat) : Int) := by
 have h := bits_mask .i64 63 (by decide) (fun n h0 h1 => by rw [two63'] at h1; rw [IntKind.wrap_i64]; omega) 1 (by decide) (i : Int) (by omega) (by rw [two63']; omega)
 have e : ((2 : Int) ^ 1 - 1) = 1 := by decide
 rw [e] at h
 rw [h]
 omega

/-- The powers of ten that a number is cut by. -/
def ten (i : Nat) : Nat := 10 ^ (288 * 2 ^ i)
/-- A number whose limbs lie below B. -/
def RepB (B : Nat) (w : World) (v : Value) (m : Nat) : Prop :=
 ∃ ao c, v = .slice ao (nl W32 m) c ∧ nl W32 m ≤ c ∧ nl W32 m ≤ LIM ∧ (0 < nl W32 m → ∃ b off, ao = some ⟨b, off, none⟩ ∧ Cells w .u64 b off (nl W32 m) (dg W32 m) ∧ b < B)
theorem RepB.rep {B : Nat} {w : World} {v : Value} {m : Nat} (h : RepB B w v m) : Rep w v m := by
 obtain ⟨ao, c, h1, h2, h3, h4⟩ := h
 exact ⟨ao, c, h1, h2, h3, fun hn => let ⟨b, off, e, hc, _⟩ := h4 hn; ⟨b, off, e, hc⟩⟩
theorem RepB.below {B : Nat} {w w' : World} {v : Value} {m : Nat} (h : RepB B w v m) (hb : Below B w w') : RepB B w' v m := by
 obtain ⟨ao, c, h1, h2, h3, h4⟩ := h
 exact ⟨ao, c, h1, h2, h3, fun hn => let ⟨b, off, e, hc, hl⟩ := h4 hn; ⟨b, off, e, hc.below hb hl, hl⟩⟩
theorem RepB.mono {B B' : Nat} {w : World} {v : Value} {m : Nat} (h : RepB B w v m) (hb : B ≤ B') : RepB B' w v m := by
 obtain ⟨ao, c, h1, h2, h3, h4⟩ := h
 exact ⟨ao, c, h1, h2, h3, fun hn => let ⟨b, off, e, hc, hl⟩ := h4 hn; ⟨b, off, e, hc, by omega⟩⟩
/-- A row of such powers, in memory below B. -/
def Tens (B : Nat) (w : World) (v : Value) (t : Nat) : Prop :=
 ∃ ao c, v = .slice ao t c ∧ t ≤ c ∧ (0 < t → ∃ b off, ao = some ⟨b, off, none⟩ ∧ b < B ∧ ∀ i, i < t → ∃ u, w.cell? ⟨b, off + i, none⟩ = some u ∧ RepB B w u (ten i))
theorem Tens.below {B : Nat} {w w' : World} {v : Value} {t : Nat} (h : Tens B w v t) (hb : Below B w w') : Tens B w' v t := by
 obtain ⟨ao, c, h1, h2, h4⟩ := h
 refine ⟨ao, c, h1, h2, fun hn => ?_⟩
 obtain ⟨b, off, e, hl, hc⟩ := h4 hn
 refine ⟨b, off, e, hl, fun i hi => ?_⟩
 obtain ⟨u, hu, hr⟩ := hc i hi
 exact ⟨u, (hb.cell hl).trans hu, hr.below hb⟩

/-- A number whose limbs do not lie in block g. -/
def RepN (g : Nat) (w : World) (v : Value) (m : Nat) : Prop :=
 ∃ ao c, v = .slice ao (nl W32 m) c ∧ nl W32 m ≤ c ∧ nl W32 m ≤ LIM ∧ (0 < nl W32 m → ∃ b off, ao = some ⟨b, off, none⟩ ∧ Cells w .u64 b off (nl W32 m) (dg W32 m) ∧ b ≠ g)
theorem RepN.rep {g : Nat} {w : World} {v : Value} {m : Nat} (h : RepN g w v m) : Rep w v m := by
 obtain ⟨ao, c, h1, h2, h3, h4⟩ := h
 exact ⟨ao, c, h1, h2, h3, fun hn => let ⟨b, off, e, hc, _⟩ := h4 hn; ⟨b, off, e, hc⟩⟩
theorem RepN.below {g : Nat} {w w' : World} {v : Value} {m : Nat} (h : RepN g w v m) (hb : Below w.heap.size w w') : RepN g w' v m := by
 obtain ⟨ao, c, h1, h2, h3, h4⟩ := h
 exact ⟨ao, c, h1, h2, h3, fun hn => let ⟨b, off, e, hc, hl⟩ := h4 hn; ⟨b, off, e, hc.below hb (hc.lt hn), hl⟩⟩
theorem RepN.grown {g g' : Nat} {w w' : World} {v : Value} {m : Nat} (h : RepN g w v m) (hg : w.grownBy w' (some g)) (h' : g' = g ∨ g' = w.heap.size) : RepN g' w' v m := by
 obtain ⟨ao, c, h1, h2, h3, h4⟩ := h
 refine ⟨ao, c, h1, h2, h3, fun hn => ?_⟩
 obtain ⟨b, off, e, hc, hl⟩ := h4 hn
 have hlt := hc.lt hn
 have hne : b ≠ g' := by
  rcases h' with h | h
  ·rw [h]; exact hl
  ·rw [h]; exact Nat.ne_of_lt hlt
 refine ⟨b, off, e, fun i hi => ?_, hne⟩
 rw [World.cell?_of_block (w := w) (hg.block b hlt (by simp; exact hl))]
 exact hc i hi



theorem zof_of_neg (k : Int) (h : k < 0) : zof true (-k).toNat = k := by rw [zof_true]; omega
theorem zof_of_pos (k : Int) (h : 0 ≤ k) : zof false k.toNat = k := by rw [zof_false]; omega

set_option maxRecDepth 20000 in
set_option maxHeartbeats 400000 in
theorem wof_any (k : Int) (w : World) (h0 : -9223372036854775808 ≤ k) (h1 : k ≤ 9223372036854775807) :
  Calls Tryz.prog 102 #[.int .i64 k] w fun e w' => ∃ r, e = .returned r ∧ RepI w' r k ∧ Below w.heap.size w w' := by
 have hA : ∀ o, Below w.heap.size w (w.alloc o) := fun o => (Below.refl _ _).alloc (Nat.le_refl _) _
 by_cases hk : k < 0
 ·have e1 : IntKind.u64.wrap k = k + 18446744073709551616 := by rw [IntKind.wrap_u64]; omega
  have e2 : IntKind.u64.wrap (-(k + 18446744073709551616)) = -k := by rw [IntKind.wrap_u64]; omega
  go_enter Tryz.func102, Tryz.ntmps102
  go_wp2_with fail
  refine (of_any _ _ (by omega) (by omega)).mono ?_
  rintro e w1 ⟨s, rfl, hs, hb1⟩
  have hk1 := keepW hb1 (by simp) (resW w _ _ _)
  have B1 := (hA _).trans (hb1.mono (by simp))
  go_wp2_with fail
  refine (signed_any _ _ _ _ hs.nums).mono ?_
  rintro e w2 ⟨r, rfl, hr, hb2⟩
  obtain ⟨b2, ao2, n2, c2, rfl⟩ := hr.open
  obtain ⟨q1, q2, q3, q4⟩ := keepW hb2 (Nat.le_refl _) hk1
  go_wp2
  (try simp only [Exit.inBlock, Exit.then])
  refine bodyPost_ret (v := .agg #[.bool b2, .slice ao2 n2 c2]) (by simp [results, go_sem, q1, q2]) rfl ?_
  have B2 := B1.trans (hb2.mono B1.size)
  rw [zof_of_neg k hk] at hr
  exact ⟨_, rfl, hr.store2 q1 q2 _ _, below_store2 B2 (by omega) _ _⟩
 ·have e1 : IntKind.u64.wrap k = k := by rw [IntKind.wrap_u64]; omega
  go_enter Tryz.func102, Tryz.ntmps102
  go_wp2_with fail
  refine (of_any _ _ (by omega) (by omega)).mono ?_
  rintro e w1 ⟨s, rfl, hs, hb1⟩
  have hk1 := keepW hb1 (by simp) (resW w _ _ _)
  have B1 := (hA _).trans (hb1.mono (by simp))
  go_wp2_with fail
  refine (signed_any _ _ _ _ hs.nums).mono ?_
  rintro e w2 ⟨r, rfl, hr, hb2⟩
  obtain ⟨b2, ao2, n2, c2, rfl⟩ := hr.open
  obtain ⟨q1, q2, q3, q4⟩ := keepW hb2 (Nat.le_refl _) hk1
  go_wp2
  (try simp only [Exit.inBlock, Exit.then])
  refine bodyPost_ret (v := .agg #[.bool b2, .slice ao2 n2 c2]) (by simp [results, go_sem, q1, q2]) rfl ?_
  have B2 := B1.trans (hb2.mono B1.size)
  rw [zof_of_pos k (by omega)] at hr
  exact ⟨_, rfl, hr.store2 q1 q2 _ _, below_store2 B2 (by omega) _ _⟩

theorem cmp_sign {x y : Int} (h : ¬ cmpI x 0 = cmpI y 0) : cmpI (cmpI x 0) (cmpI y 0) = cmpI x y := by
 unfold cmpI at *; repeat' split <;> simp_all <;> omega

set_option maxRecDepth 20000 in
set_option maxHeartbeats 2000000 in
theorem wcmp_any (u v : Value) (x y : Int) (L M : Nat) (w : World) (hu : IntAt w u x L) (hv : IntAt w v y M) :
  Calls Tryz.prog 145 #[u, v] w fun e w' => e = .returned (.int .i64 (cmpI x y)) ∧ Below w.heap.size w w' := by
 obtain ⟨p, ao, n, c, f, rfl, hu, hf, rfl, hn⟩ := hu
 obtain ⟨q, bo, m, d, g, rfl, hv, hg, rfl, hm⟩ := hv
 have hA : ∀ o o', Below w.heap.size w ((w.alloc o).alloc o') := fun o o' => ((Below.refl _ _).alloc (Nat.le_refl _) _).alloc (by simp) _
 have c1 := (resW w 42 (.bool p) (.slice ao n c))
 have c2 := (res1 w (.cells #[.bool p, .slice ao n c] 42) 42 (.bool q) (.slice bo m d))
 have b1 : Below (w.heap.size + 1) (w.alloc (.cells #[.bool p, .slice ao n c] 42)) ((w.alloc (.cells #[.bool p, .slice ao n c] 42)).alloc (.cells #[.bool q, .slice bo m d] 42)) := (Below.refl _ _).alloc (by simp) _
 have k1 := keep2 b1 (by simp) ⟨c1.1, c1.2.1⟩
 have hS : ((w.alloc (.cells #[.bool p, .slice ao n c] 42)).alloc (.cells #[.bool q, .slice bo m d] 42)).drew.cell? ⟨w.heap.size, 0, none⟩ = some (.bool p) ∧ ((w.alloc (.cells #[.bool p, .slice ao n c] 42)).alloc (.cells #[.bool q, .slice bo m d] 42)).drew.cell? ⟨w.heap.size, 1, none⟩ = some (.slice ao n c) ∧ ((w.alloc (.cells #[.bool p, .slice ao n c] 42)).alloc (.cells #[.bool q, .slice bo m d] 42)).drew.cell? ⟨w.heap.size + 1, 0, none⟩ = some (.bool q) ∧ ((w.alloc (.cells #[.bool p, .slice ao n c] 42)).alloc (.cells #[.bool q, .slice bo m d] 42)).drew.cell? ⟨w.heap.size + 1, 1, none⟩ = some (.slice bo m d) := ⟨k1.1, k1.2, c2.1, c2.2.1⟩
 clear c1 c2 b1 k1
 have BA : Below w.heap.size w ((w.alloc (.cells #[.bool p, .slice ao n c] 42)).alloc (.cells #[.bool q, .slice bo m d] 42)).drew := (hA _ _).drew
 go_enter Tryz.func145, Tryz.ntmps145
 go_wp2
 go_region_held3 (fun w' => w'.cell? ⟨w.heap.size, 0, none⟩ = some (.bool p) ∧ w'.cell? ⟨w.heap.size, 1, none⟩ = some (.slice ao n c) ∧ w'.cell? ⟨w.heap.size + 1, 0, none⟩ = some (.bool q) ∧ w'.cell? ⟨w.heap.size + 1, 1, none⟩ = some (.slice bo m d)) (first | exact keep4 (by assumption) (by simp) (by assumption) | exact hS | go_keep) (first
  | (go_at_call_of 95 (Value.slice ao n c); refine (sign_any _ (zof p (num f n)) L _ ⟨_, _, _, _, _, rfl, hu.below BA, hf, rfl, hn⟩).mono ?_; rintro e w1 ⟨rfl, hb1⟩)
  | (go_at_call_of 95 (Value.slice bo m d); refine (sign_any _ (zof q (num g m)) M _ ⟨_, _, _, _, _, rfl, (hv.below BA).below hb1, hg, rfl, hm⟩).mono ?_; rintro e w2 ⟨rfl, hb2⟩))
 obtain ⟨d1, d2, d3, d4⟩ := keep4 hb2 (Nat.le_refl _) (keep4 hb1 (Nat.le_refl _) hS)
 have B1 : Below w.heap.size w w1 := BA.trans (hb1.mono BA.size)
 have B2 : Below w.heap.size w w2 := B1.trans (hb2.mono B1.size)
 clear hS
 by_cases hs : cmpI (zof p (num f n)) 0 = cmpI (zof q (num g m)) 0
 ·have hne : (cmpI (zof p (num f n)) 0 != cmpI (zof q (num g m)) 0) = false := by simp [hs]
  by_cases hz : zof p (num f n) < 0
  ·have hp : p = true := by cases p <;> simp [zof] at hz ⊢ <;> omega
   have hq : q = true := by
    rw [cmpI_lt hz] at hs
    have : zof q (num g m) < 0 := by unfold cmpI at hs; split at hs <;> (try assumption) <;> (split at hs <;> omega)
    cases q <;> simp [zof] at this ⊢ <;> omega
   have hc : cmpI (zof p (num f n)) 0 < 0 := by rw [cmpI_lt hz]; omega
   have HE : Hid (cmpI (zof p (num f n)) (zof q (num g m)) = cmpI (num g m) (num f n)) := by
    show _ = _; rw [hp, hq, zof_true, zof_true]; unfold cmpI; repeat' split <;> omega
   clear hz hs hp hq
   generalize cmpI (zof p (num f n)) 0 = X at *
   generalize cmpI (zof q (num g m)) 0 = Y at *
   go_wp2_with fail
   refine (cmp_any _ _ _ _ _ _ _ (hv.below B2) (hu.below B2) hg hf).mono ?_
   rintro e w3 ⟨rfl, hb3⟩
   go_wp2
   go_ret
   exact ⟨by rw [HE.out]; rfl, B2.trans (hb3.mono B2.size)⟩
  ·have hc : ¬ cmpI (zof p (num f n)) 0 < 0 := by unfold cmpI; rw [if_neg hz]; split <;> omega
   have HE : Hid (cmpI (zof p (num f n)) (zof q (num g m)) = cmpI (num f n) (num g m)) := by
    have h0 : ¬ zof q (num g m) < 0 := fun h => by rw [cmpI_lt h] at hs; omega
    have e1 : zof p (num f n) = (num f n : Int) := by cases p <;> simp [zof] at hz ⊢ <;> omega
    have e2 : zof q (num g m) = (num g m : Int) := by cases q <;> simp [zof] at h0 ⊢ <;> omega
    show _ = _; rw [e1, e2]
   clear hz hs
   generalize cmpI (zof p (num f n)) 0 = X at *
   generalize cmpI (zof q (num g m)) 0 = Y at *
   go_wp2_with fail
   refine (cmp_any _ _ _ _ _ _ _ (hu.below B2) (hv.below B2) hf hg).mono ?_
   rintro e w3 ⟨rfl, hb3⟩
   go_wp2
   go_ret
   exact ⟨by rw [HE.out]; rfl, B2.trans (hb3.mono B2.size)⟩
 ·have hne : (cmpI (zof p (num f n)) 0 != cmpI (zof q (num g m)) 0) = true := by simp [hs]
  have HE : Hid (cmpI (cmpI (zof p (num f n)) 0) (cmpI (zof q (num g m)) 0) = cmpI (zof p (num f n)) (zof q (num g m))) := cmp_sign hs
  clear hs
  generalize cmpI (zof p (num f n)) 0 = X at *
  generalize cmpI (zof q (num g m)) 0 = Y at *
  go_wp2_with fail
  refine (compare_int _ _ _).mono ?_
  rintro e w3 ⟨rfl, hw⟩
  subst hw
  go_wp2
  go_ret
  exact ⟨by rw [← HE.out]; rfl, B2⟩

end Go.Proofs.YthkamfddbiheoaaGreatDoor

namespace Go.Proofs.YthkamfddbiheoaaGreatDoor
open Go.RowKit
set_option linter.unusedVariables false

theorem nl_mono (B x y : Nat) (hB : 2 ≤ B) (h : x ≤ y) : nl B x ≤ nl B y := nl_le B x _ hB (Nat.lt_of_le_of_lt h (lt_pow_nl B y hB))
theorem nl_one : nl W32 1 ≤ 1 := nl_le W32 1 1 (by decide) (by decide)

theorem floor_pos {x y q r : Int} (h : x = y * q + r) (hy : 0 < y) (h0 : 0 ≤ r) (h1 : r < y) : q = x.fdiv y ∧ r = x.fmod y := by
 have e1 : x / y = q ∧ x % y = r := (Int.ediv_emod_unique hy).2 ⟨by rw [Int.add_comm]; exact h.symm, h0, h1⟩
 rw [Int.fdiv_eq_ediv_of_nonneg _ (by omega), Int.fmod_eq_emod_of_nonneg _ (by omega)]
 exact ⟨e1.1.symm, e1.2.symm⟩
theorem floor_neg {x y q r : Int} (h : x = y * q + r) (hy : y < 0) (h0 : r ≤ 0) (h1 : y < r) : q = x.fdiv y ∧ r = x.fmod y := by
 have e := floor_pos (x := -x) (y := -y) (q := q) (r := -r) (by rw [h, Int.neg_mul]; omega) (by omega) (by omega) (by omega)
 have e1 : q = x.fdiv y := by rw [e.1, Int.neg_fdiv_neg]
 refine ⟨e1, ?_⟩
 have e2 := Int.mul_fdiv_add_fmod x y
 rw [← e1] at e2; omega

theorem floor_same (p : Bool) (X Y : Nat) (hY : 0 < Y) : (zof p X).fdiv (zof p Y) = zof false (X / Y) ∧ (zof p X).fmod (zof p Y) = zof p (X % Y) := by
 have h1 := Nat.div_add_mod X Y
 have h2 := Nat.mod_lt X hY
 have h3 : (X : Int) = (Y : Int) * ((X / Y : Nat) : Int) + ((X % Y : Nat) : Int) := by rw [← Int.natCast_mul]; omega
 generalize X / Y = Q at *
 generalize X % Y = R at *
 cases p with
 | false =>
  simp only [zof_false]
  have := floor_pos h3 (by omega) (by omega) (by omega)
  exact ⟨this.1.symm, this.2.symm⟩
 | true =>
  simp only [zof_true, zof_false]
  have := floor_neg (x := -(X : Int)) (y := -(Y : Int)) (q := Q) (r := -(R : Int)) (by rw [h3, Int.neg_mul]; omega) (by omega) (by omega) (by omega)
  exact ⟨this.1.symm, this.2.symm⟩
theorem floor_even (p : Bool) (X Y : Nat) (hY : 0 < Y) (hR : X % Y = 0) : (zof p X).fdiv (zof (!p) Y) = zof true (X / Y) ∧ (zof p X).fmod (zof (!p) Y) = 0 := by
 have h1 := Nat.div_add_mod X Y
 have h3 : (X : Int) = (Y : Int) * ((X / Y : Nat) : Int) := by rw [← Int.natCast_mul]; omega
 generalize X / Y = Q at *
 cases p with
 | false =>
  simp only [zof_false, Bool.not_false, zof_true]
  have := floor_neg (x := (X : Int)) (y := -(Y : Int)) (q := -(Q : Int)) (r := 0) (by rw [h3, Int.neg_mul_neg]; omega) (by omega) (by omega) (by omega)
  exact ⟨this.1.symm, this.2.symm⟩
 | true =>
  simp only [zof_true, Bool.not_true, zof_false]
  have := floor_pos (x := -(X : Int)) (y := (Y : Int)) (q := -(Q : Int)) (r := 0) (by rw [h3, Int.mul_neg]; omega) (by omega) (by omega) (by omega)
  exact ⟨this.1.symm, this.2.symm⟩
theorem floor_odd (p : Bool) (X Y : Nat) (hY : 0 < Y) (hR : X % Y ≠ 0) : (zof p X).fdiv (zof (!p) Y) = zof true (X / Y + 1) ∧ (zof p X).fmod (zof (!p) Y) = zof (!p) (Y - X % Y) := by
 have h1 := Nat.div_add_mod X Y
 have h2 := Nat.mod_lt X hY
 have h3 : (X : Int) = (Y : Int) * ((X / Y : Nat) : Int) + ((X % Y : Nat) : Int) := by rw [← Int.natCast_mul]; omega
 generalize X / Y = Q at *
 generalize X % Y = R at *
 cases p with
 | false =>
  simp only [zof_false, Bool.not_false, zof_true]
  have := floor_neg (x := (X : Int)) (y := -(Y : Int)) (q := -((Q + 1 : Nat) : Int)) (r := -((Y - R : Nat) : Int)) (by rw [h3, Int.neg_mul_neg, Int.natCast_add, Int.mul_add]; omega) (by omega) (by omega) (by omega)
  exact ⟨this.1.symm, this.2.symm⟩
 | true =>
  simp only [zof_true, Bool.not_true, zof_false]
  have := floor_pos (x := -(X : Int)) (y := (Y : Int)) (q := -((Q + 1 : Nat) : Int)) (r := ((Y - R : Nat) : Int)) (by rw [h3, Int.mul_neg, Int.natCast_add, Int.mul_add]; omega) (by omega) (by omega) (by omega)
  exact ⟨this.1.symm, this.2.symm⟩

/-- Two variables for structs laid behind two others. -/
theorem res34 (w : World) (o o' : Obj) (t t' : TypeId) (x y x' y' : Value) :
  ((((w.alloc o).alloc o').alloc (.cells #[x, y] t)).alloc (.cells #[x', y'] t')).cell? ⟨w.heap.size + 1 + 1, 0, none⟩ = some x ∧
  ((((w.alloc o).alloc o').alloc (.cells #[x, y] t)).alloc (.cells #[x', y'] t')).cell? ⟨w.heap.size + 1 + 1, 1, none⟩ = some y ∧
  ((((w.alloc o).alloc o').alloc (.cells #[x, y] t)).alloc (.cells #[x', y'] t')).frozen? ⟨w.heap.size + 1 + 1, 0, none⟩ = false ∧
  ((((w.alloc o).alloc o').alloc (.cells #[x, y] t)).alloc (.cells #[x', y'] t')).frozen? ⟨w.heap.size + 1 + 1, 1, none⟩ = false := by
 refine keepW (B := w.heap.size + 1 + 1 + 1) ((Below.refl _ _).alloc (by simp) _) (by simp) (res2 w o o' t x y)
theorem res4 (w : World) (o o' o'' : Obj) (t : TypeId) (x y : Value) :
  ((((w.alloc o).alloc o').alloc o'').alloc (.cells #[x, y] t)).cell? ⟨w.heap.size + 1 + 1 + 1, 0, none⟩ = some x ∧ ((((w.alloc o).alloc o').alloc o'').alloc (.cells #[x, y] t)).cell? ⟨w.heap.size + 1 + 1 + 1, 1, none⟩ = some y ∧
  ((((w.alloc o).alloc o').alloc o'').alloc (.cells #[x, y] t)).frozen? ⟨w.heap.size + 1 + 1 + 1, 0, none⟩ = false ∧ ((((w.alloc o).alloc o').alloc o'').alloc (.cells #[x, y] t)).frozen? ⟨w.heap.size + 1 + 1 + 1, 1, none⟩ = false := by
 have h := resW (((w.alloc o).alloc o').alloc o'') t x y
 rw [World.size_alloc, World.size_alloc, World.size_alloc] at h; exact h


theorem box_b (w : World) (t t' : TypeId) (p q p' q' : Value) (o o' : Obj) :
  ((((w.alloc (.cells #[p, q] t)).alloc (.cells #[p', q'] t')).alloc o).alloc o').cell? ⟨w.heap.size, 0, none⟩ = some p ∧
  ((((w.alloc (.cells #[p, q] t)).alloc (.cells #[p', q'] t')).alloc o).alloc o').cell? ⟨w.heap.size, 1, none⟩ = some q ∧
  ((((w.alloc (.cells #[p, q] t)).alloc (.cells #[p', q'] t')).alloc o).alloc o').cell? ⟨w.heap.size + 1, 0, none⟩ = some p' ∧
  ((((w.alloc (.cells #[p, q] t)).alloc (.cells #[p', q'] t')).alloc o).alloc o').cell? ⟨w.heap.size + 1, 1, none⟩ = some q' := by
 have h0 := resW w t p q
 have h1 := res1 w (.cells #[p, q] t) t' p' q'
 have b1 : Below (w.heap.size + 1) (w.alloc (.cells #[p, q] t)) ((((w.alloc (.cells #[p, q] t)).alloc (.cells #[p', q'] t')).alloc o).alloc o') :=
  (((Below.refl _ _).alloc (by simp) _).alloc (by simp) _).alloc (by simp <;> omega) _
 have b2 : Below (w.heap.size + 1 + 1) ((w.alloc (.cells #[p, q] t)).alloc (.cells #[p', q'] t')) ((((w.alloc (.cells #[p, q] t)).alloc (.cells #[p', q'] t')).alloc o).alloc o') :=
  ((Below.refl _ _).alloc (by simp) _).alloc (by simp) _
 have k0 := keep2 b1 (by simp) ⟨h0.1, h0.2.1⟩
 have k1 := keep2 b2 (by simp) ⟨h1.1, h1.2.1⟩
 exact ⟨k0.1, k0.2, k1.1, k1.2⟩

/-- Two answers stored. -/
theorem RepI.store4 {w : World} {v : Value} {z : Int} (h : RepI w v z) {R R' m c m' c' : Nat} {p p' : Bool} {ao ao' : Option Addr} (q1 : w.cell? ⟨R, 0, none⟩ = some (.bool p)) (q2 : w.cell? ⟨R, 1, none⟩ = some (.slice ao m c))
  (q3 : w.cell? ⟨R', 0, none⟩ = some (.bool p')) (q4 : w.cell? ⟨R', 1, none⟩ = some (.slice ao' m' c')) (hne : R' ≠ R) (x y x' y' : Value) :
  RepI ((((w.setCell ⟨R, 0, none⟩ x).setCell ⟨R, 1, none⟩ y).setCell ⟨R', 0, none⟩ x').setCell ⟨R', 1, none⟩ y') v z := by
 have a1 : ((w.setCell ⟨R, 0, none⟩ x).setCell ⟨R, 1, none⟩ y).cell? ⟨R', 0, none⟩ = some (.bool p') := by
  rw [World.cell?_setCell_other _ _ _ _ (fun e => by injection e; omega), World.cell?_setCell_other _ _ _ _ (fun e => by injection e; omega)]; exact q3
 have a2 : ((w.setCell ⟨R, 0, none⟩ x).setCell ⟨R, 1, none⟩ y).cell? ⟨R', 1, none⟩ = some (.slice ao' m' c') := by
  rw [World.cell?_setCell_other _ _ _ _ (fun e => by injection e; omega), World.cell?_setCell_other _ _ _ _ (fun e => by injection e; omega)]; exact q4
 exact (h.store2 q1 q2 x y).store2 a1 a2 x' y'

/-- What DivMod answers where there is a quotient. -/
def DivOut (x y : Int) (B : Nat) (w : World) (e : Ending) (w' : World) : Prop :=
 ∃ q r, e = .returned (.tuple #[q, r, .int .i64 0]) ∧ RepI w' q (x.fdiv y) ∧ RepI w' r (x.fmod y) ∧ Below B w w'

set_option maxRecDepth 20000 in
set_option maxHeartbeats 2000000 in
theorem wdiv_same (p : Bool) (ao : Option Addr) (n c : Nat) (f : Nat → Int) (bo : Option Addr) (m d : Nat) (g : Nat → Int) (w : World)
  (hu : Nums .u64 w (.slice ao n c) n f) (hf : U64 n f) (hv : Nums .u64 w (.slice bo m d) m g) (hg : U64 m g) (h0 : num g m ≠ 0) (hl : nl W32 (num f n) ≤ 999999) :
  Calls Tryz.prog 122 #[.agg #[.bool p, .slice ao n c], .agg #[.bool p, .slice bo m d]] w fun e w' => DivOut (zof p (num f n)) (zof p (num g m)) w.heap.size w e w' := by
 have hA : ∀ o o' o'' o3, Below w.heap.size w ((((w.alloc o).alloc o').alloc o'').alloc o3) := fun o o' o'' o3 => ((((Below.refl _ _).alloc (Nat.le_refl _) _).alloc (by simp) _).alloc (by simp; omega) _).alloc (by simp; omega) _
 have ne1 : ¬ w.heap.size = w.heap.size + 1 + 1 := by omega
 have ne2 : ¬ w.heap.size + 1 + 1 = w.heap.size := by omega
 have ne3 : ¬ w.heap.size = w.heap.size + 1 + 1 + 1 := by omega
 have ne4 : ¬ w.heap.size + 1 + 1 + 1 = w.heap.size := by omega
 have ne5 : ¬ w.heap.size + 1 = w.heap.size + 1 + 1 + 1 := by omega
 have ne6 : ¬ w.heap.size + 1 + 1 + 1 = w.heap.size + 1 := by omega
 obtain ⟨c1, c2, c3, c4⟩ := box_b w 42 42 (.bool p) (.slice ao n c) (.bool p) (.slice bo m d) (.cells #[.bool false, .slice none 0 0] 42) (.cells #[.bool false, .slice none 0 0] 42)
 go_enter Tryz.func122, Tryz.ntmps122
 go_wp2_with fail
 refine (divMod_of _ _ _ _ _ _ _ (hu.below (hA _ _ _ _)) (hv.below (hA _ _ _ _)) hf hg h0 (divide_any _ _ (by omega) hl)).mono ?_
 rintro e w0 ⟨qv, rv, rfl, hqv, hrv, hb0⟩
 have hj0 := keepW hb0 (by simp) (res34 w _ _ _ _ _ _ _ _)
 have hk0 := keepW hb0 (by simp) (res4 w _ _ _ _ _ _)
 obtain ⟨d1, d2, d3, d4⟩ := keep4 hb0 (by simp) ⟨c1, c2, c3, c4⟩
 have B0 : Below w.heap.size w w0 := (hA _ _ _ _).trans (hb0.mono (by simp; omega))
 clear c1 c2 c3 c4
 go_wp2
 go_region_held3 (fun w' => w'.cell? ⟨w.heap.size, 0, none⟩ = some (.bool p) ∧ w'.cell? ⟨w.heap.size, 1, none⟩ = some (.slice ao n c) ∧ w'.cell? ⟨w.heap.size + 1, 0, none⟩ = some (.bool p) ∧ w'.cell? ⟨w.heap.size + 1, 1, none⟩ = some (.slice bo m d)) (first | exact keep4 (by assumption) (by simp) (by assumption) | go_keep) (first
  | (go_at_call_of 148 qv; refine (signed_any false _ _ _ (hqv.nums.below (Below.refl _ w0).drew)).mono ?_; rintro e w1 ⟨r1, rfl, hr1, hb1⟩; obtain ⟨b1, ao1, n1, e1, rfl⟩ := hr1.open; have hj1 := keepW hb1 (Nat.le_refl _) hj0; have hk1 := keepW hb1 (Nat.le_refl _) hk0)
  | (go_at_call_of 148 rv; refine (signed_any p _ _ _ ((hrv.nums.below (Below.refl _ w0).drew).below hb1)).mono ?_; rintro e w2 ⟨r2, rfl, hr2, hb2⟩; obtain ⟨b2, ao2, n2, e2, rfl⟩ := hr2.open; obtain ⟨q1, q2, q3, q4⟩ := keepW hb2 (Nat.le_refl _) hj1; obtain ⟨q5, q6, q7, q8⟩ := keepW hb2 (Nat.le_refl _) hk1))
 go_wp2
 (try simp only [Exit.inBlock, Exit.then])
 refine bodyPost_ret (v := .tuple #[.agg #[.bool b1, .slice ao1 n1 e1], .agg #[.bool b2, .slice ao2 n2 e2], .int .i64 0]) (by simp [results, go_sem, q1, q2, q5, q6]) rfl ?_
 have B1 := B0.drew.trans (hb1.mono B0.size)
 have B2 := B1.trans (hb2.mono B1.size)
 have hfl := floor_same p (num f n) (num g m) (by omega)
 refine ⟨_, _, rfl, ?_, ?_, below_store2 (below_store2 B2 (by omega) _ _) (by omega) _ _⟩
 ·rw [hfl.1]; exact (hr1.below hb2).store4 q1 q2 q5 q6 (by omega) _ _ _ _
 ·rw [hfl.2]; exact hr2.store4 q1 q2 q5 q6 (by omega) _ _ _ _

set_option maxRecDepth 20000 in
set_option maxHeartbeats 2000000 in
theorem wdiv_even (p : Bool) (ao : Option Addr) (n c : Nat) (f : Nat → Int) (bo : Option Addr) (m d : Nat) (g : Nat → Int) (w : World)
  (hu : Nums .u64 w (.slice ao n c) n f) (hf : U64 n f) (hv : Nums .u64 w (.slice bo m d) m g) (hg : U64 m g) (h0 : num g m ≠ 0) (hl : nl W32 (num f n) ≤ 999999) (hR : num f n % num g m = 0) :
  Calls Tryz.prog 122 #[.agg #[.bool p, .slice ao n c], .agg #[.bool (!p), .slice bo m d]] w fun e w' => DivOut (zof p (num f n)) (zof (!p) (num g m)) w.heap.size w e w' := by
 have hA : ∀ o o' o'' o3, Below w.heap.size w ((((w.alloc o).alloc o').alloc o'').alloc o3) := fun o o' o'' o3 => ((((Below.refl _ _).alloc (Nat.le_refl _) _).alloc (by simp) _).alloc (by simp; omega) _).alloc (by simp; omega) _
 have ne1 : ¬ w.heap.size = w.heap.size + 1 + 1 := by omega
 have ne2 : ¬ w.heap.size + 1 + 1 = w.heap.size := by omega
 have ne3 : ¬ w.heap.size = w.heap.size + 1 + 1 + 1 := by omega
 have ne4 : ¬ w.heap.size + 1 + 1 + 1 = w.heap.size := by omega
 have ne5 : ¬ w.heap.size + 1 = w.heap.size + 1 + 1 + 1 := by omega
 have ne6 : ¬ w.heap.size + 1 + 1 + 1 = w.heap.size + 1 := by omega
 have hpq : (p == !p) = false := by cases p <;> rfl
 obtain ⟨c1, c2, c3, c4⟩ := box_b w 42 42 (.bool p) (.slice ao n c) (.bool (!p)) (.slice bo m d) (.cells #[.bool false, .slice none 0 0] 42) (.cells #[.bool false, .slice none 0 0] 42)
 have hfl : Hid (_ ∧ _) := floor_even p (num f n) (num g m) (by omega) hR
 generalize hq : (!p) = q at *
 go_enter Tryz.func122, Tryz.ntmps122
 go_wp2_with fail
 refine (divMod_of _ _ _ _ _ _ _ (hu.below (hA _ _ _ _)) (hv.below (hA _ _ _ _)) hf hg h0 (divide_any _ _ (by omega) hl)).mono ?_
 rintro e w0 ⟨qv, rv, rfl, hqv, hrv, hb0⟩
 have hj0 := keepW hb0 (by simp) (res34 w _ _ _ _ _ _ _ _)
 have hk0 := keepW hb0 (by simp) (res4 w _ _ _ _ _ _)
 obtain ⟨d1, d2, d3, d4⟩ := keep4 hb0 (by simp) ⟨c1, c2, c3, c4⟩
 have B0 : Below w.heap.size w w0 := (hA _ _ _ _).trans (hb0.mono (by simp; omega))
 clear c1 c2 c3 c4 hq
 go_wp2_with fail
 refine (nat_zero_rep hrv.rep).mono ?_
 rintro e w1 ⟨rfl, hw⟩
 subst hw
 rw [decide_eq_true hR]
 go_wp2_with fail
 refine (signed_any true _ _ _ hqv.nums).mono ?_
 rintro e w1 ⟨r1, rfl, hr1, hb1⟩
 obtain ⟨b1, ao1, n1, e1, rfl⟩ := hr1.open
 obtain ⟨q1, q2, q3, q4⟩ := keepW hb1 (Nat.le_refl _) hj0
 obtain ⟨q5, q6, q7, q8⟩ := keepW hb1 (Nat.le_refl _) hk0
 go_wp2
 (try simp only [Exit.inBlock, Exit.then])
 refine bodyPost_ret (v := .tuple #[.agg #[.bool b1, .slice ao1 n1 e1], .agg #[.bool false, .slice none 0 0], .int .i64 0]) (by simp [results, go_sem, q1, q2, q5, q6]) rfl ?_
 have B1 := B0.trans (hb1.mono B0.size)
 refine ⟨_, _, rfl, ?_, ?_, below_store2 (below_store2 B1 (by omega) _ _) (by omega) _ _⟩
 ·rw [hfl.out.1]; exact hr1.store4 q1 q2 q5 q6 (by omega) _ _ _ _
 ·rw [hfl.out.2]; exact RepI.nil _

set_option maxRecDepth 20000 in
set_option maxHeartbeats 2000000 in
theorem wdiv_odd (p : Bool) (ao : Option Addr) (n c : Nat) (f : Nat → Int) (bo : Option Addr) (m d : Nat) (g : Nat → Int) (w : World)
  (hu : Nums .u64 w (.slice ao n c) n f) (hf : U64 n f) (hv : Nums .u64 w (.slice bo m d) m g) (hg : U64 m g) (h0 : num g m ≠ 0) (hl : nl W32 (num f n) ≤ 999999) (hR : num f n % num g m ≠ 0) :
  Calls Tryz.prog 122 #[.agg #[.bool p, .slice ao n c], .agg #[.bool (!p), .slice bo m d]] w fun e w' => DivOut (zof p (num f n)) (zof (!p) (num g m)) w.heap.size w e w' := by
 have hA : ∀ o o' o'' o3, Below w.heap.size w ((((w.alloc o).alloc o').alloc o'').alloc o3) := fun o o' o'' o3 => ((((Below.refl _ _).alloc (Nat.le_refl _) _).alloc (by simp) _).alloc (by simp; omega) _).alloc (by simp; omega) _
 have ne1 : ¬ w.heap.size = w.heap.size + 1 + 1 := by omega
 have ne2 : ¬ w.heap.size + 1 + 1 = w.heap.size := by omega
 have ne3 : ¬ w.heap.size = w.heap.size + 1 + 1 + 1 := by omega
 have ne4 : ¬ w.heap.size + 1 + 1 + 1 = w.heap.size := by omega
 have ne5 : ¬ w.heap.size + 1 = w.heap.size + 1 + 1 + 1 := by omega
 have ne6 : ¬ w.heap.size + 1 + 1 + 1 = w.heap.size + 1 := by omega
 have hpq : (p == !p) = false := by cases p <;> rfl
 obtain ⟨c1, c2, c3, c4⟩ := box_b w 42 42 (.bool p) (.slice ao n c) (.bool (!p)) (.slice bo m d) (.cells #[.bool false, .slice none 0 0] 42) (.cells #[.bool false, .slice none 0 0] 42)
 have hfl : Hid (_ ∧ _) := floor_odd p (num f n) (num g m) (by omega) hR
 generalize hq : (!p) = q at *
 go_enter Tryz.func122, Tryz.ntmps122
 go_wp2_with fail
 refine (divMod_of _ _ _ _ _ _ _ (hu.below (hA _ _ _ _)) (hv.below (hA _ _ _ _)) hf hg h0 (divide_any _ _ (by omega) hl)).mono ?_
 rintro e w0 ⟨qv, rv, rfl, hqv, hrv, hb0⟩
 have hj0 := keepW hb0 (by simp) (res34 w _ _ _ _ _ _ _ _)
 have hk0 := keepW hb0 (by simp) (res4 w _ _ _ _ _ _)
 obtain ⟨d1, d2, d3, d4⟩ := keep4 hb0 (by simp) ⟨c1, c2, c3, c4⟩
 have B0 : Below w.heap.size w w0 := (hA _ _ _ _).trans (hb0.mono (by simp; omega))
 clear c1 c2 c3 c4 hq
 have hlm : num f n % num g m < num g m := Nat.mod_lt _ (by omega)
 have hq1 : nl W32 (num f n / num g m) ≤ 999999 := Nat.le_trans (nl_mono W32 _ _ (by decide) (Nat.div_le_self _ _)) hl
 have hn1 := nl_one
 go_wp2_with fail
 refine (nat_zero_rep hrv.rep).mono ?_
 rintro e wz ⟨rfl, hw⟩
 subst hw
 rw [decide_eq_false hR]
 have i1 : Rep wz.drew qv (num f n / num g m) := hqv.nums.below (Below.refl _ wz).drew
 have i2 : Rep wz.drew rv (num f n % num g m) := hrv.nums.below (Below.refl _ wz).drew
 have i3 : Nums .u64 wz.drew (.slice bo m d) m g := hv.below B0.drew
 go_wp2
 go_region_held3 (fun w' => w'.cell? ⟨w.heap.size, 0, none⟩ = some (.bool p) ∧ w'.cell? ⟨w.heap.size, 1, none⟩ = some (.slice ao n c) ∧ w'.cell? ⟨w.heap.size + 1, 0, none⟩ = some (.bool q) ∧ w'.cell? ⟨w.heap.size + 1, 1, none⟩ = some (.slice bo m d)) (first | exact keep4 (by assumption) (by simp) (by assumption) | go_keep) (first
  | (go_at_call 84; refine (of_any _ _ (by omega) (by omega)).mono ?_; rintro e w1 ⟨s1, rfl, hs1, hb1⟩; rw [show (1 : Int).toNat = 1 from rfl] at hs1; have hj1 := keepW hb1 (Nat.le_refl _) hj0; have hk1 := keepW hb1 (Nat.le_refl _) hk0)
  | (go_at_call 140; refine (add_any _ _ _ _ _ _ _ (Nums.below i1 hb1) hs1.nums (u64_dg _ _) (u64_dg _ _) (by omega) (by omega)).mono ?_; rw [num_nl, num_nl]; rintro e w2 ⟨s2, rfl, hs2, hb2⟩; have hj2 := keepW hb2 (Nat.le_refl _) hj1; have hk2 := keepW hb2 (Nat.le_refl _) hk1)
  | (go_at_call_of 148 s2; refine (signed_any true _ _ _ hs2.rep).mono ?_; rintro e w3 ⟨r1, rfl, hr1, hb3⟩; obtain ⟨b1, ao1, n1, e1, rfl⟩ := hr1.open; have hj3 := keepW hb3 (Nat.le_refl _) hj2; have hk3 := keepW hb3 (Nat.le_refl _) hk2)
  | (go_at_call 149; refine (less_any _ _ _ _ _ _ _ (((i3.below hb1).below hb2).below hb3) (Nums.below (Nums.below (Nums.below i2 hb1) hb2) hb3) hg (u64_dg _ _) (by rw [num_nl]; omega)).mono ?_; rw [num_nl]; rintro e w4 ⟨s4, rfl, hs4, hb4⟩; have hj4 := keepW hb4 (Nat.le_refl _) hj3; have hk4 := keepW hb4 (Nat.le_refl _) hk3)
  | (go_at_call_of 148 s4; refine (signed_any q _ _ _ hs4.rep).mono ?_; rintro e w5 ⟨r2, rfl, hr2, hb5⟩; obtain ⟨b2, ao2, n2, e2, rfl⟩ := hr2.open; obtain ⟨q1, q2, q3, q4⟩ := keepW hb5 (Nat.le_refl _) hj4; obtain ⟨q5, q6, q7, q8⟩ := keepW hb5 (Nat.le_refl _) hk4))
 go_wp2
 (try simp only [Exit.inBlock, Exit.then])
 refine bodyPost_ret (v := .tuple #[.agg #[.bool b1, .slice ao1 n1 e1], .agg #[.bool b2, .slice ao2 n2 e2], .int .i64 0]) (by simp [results, go_sem, q1, q2, q5, q6]) rfl ?_
 have B1 := B0.drew.trans (hb1.mono B0.size)
 have B2 := B1.trans (hb2.mono B1.size)
 have B3 := B2.trans (hb3.mono B2.size)
 have B4 := B3.trans (hb4.mono B3.size)
 have B5 := B4.trans (hb5.mono B4.size)
 refine ⟨_, _, rfl, ?_, ?_, below_store2 (below_store2 B5 (by omega) _ _) (by omega) _ _⟩
 ·rw [hfl.out.1]; exact ((hr1.below hb4).below hb5).store4 q1 q2 q5 q6 (by omega) _ _ _ _
 ·rw [hfl.out.2]; exact hr2.store4 q1 q2 q5 q6 (by omega) _ _ _ _

theorem wdivMod_any (u v : Value) (x y : Int) (L M : Nat) (w : World) (hu : IntAt w u x L) (hv : IntAt w v y M) (hL : L ≤ 999998) (hy : y ≠ 0) :
  Calls Tryz.prog 122 #[u, v] w fun e w' => DivOut x y w.heap.size w e w' := by
 obtain ⟨p, ao, n, c, f, rfl, hu, hf, rfl, hn⟩ := hu
 obtain ⟨q, bo, m, d, g, rfl, hv, hg, rfl, hm⟩ := hv
 have h0 : num g m ≠ 0 := fun h => hy (by rw [h]; cases q <;> simp [zof])
 have hl : nl W32 (num f n) ≤ 999999 := Nat.le_trans (nl_le W32 _ _ (by decide) (num_lt f n)) (by omega)
 by_cases hpq : p = q
 ·subst hpq
  exact wdiv_same p ao n c f bo m d g w hu hf hv hg h0 hl
 ·obtain rfl : q = !p := by cases p <;> cases q <;> simp_all
  by_cases hR : num f n % num g m = 0
  ·exact wdiv_even p ao n c f bo m d g w hu hf hv hg h0 hl hR
  ·exact wdiv_odd p ao n c f bo m d g w hu hf hv hg h0 hl hR
end Go.Proofs.YthkamfddbiheoaaGreatDoor
