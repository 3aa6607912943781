/-
  Texts of mine.
-/
import Derived.Test.YthkamfddbiheoaaGreatDoorJ17fbd87016
import Derived.Laws.ShiftsVarLaws
import Derived.Deep.RegionHeld3
import Derived.Test.YthkamfddbiheoaaGreatDoorJ4ee272a78f
import Derived.Test.YthkamfddbiheoaaGreatDoorJ40a0006782
import Derived.Test.YthkamfddbiheoaaGreatDoorJf7fc8f69bc
import Derived.Test.YthkamfddbiheoaaGreatDoorJc8c39ed620
namespace Go.Proofs.YthkamfddbiheoaaGreatDoor
open Go.RowKit

theorem W32c : ((W32 : Nat) : Int) = 4294967296 := rfl
/-- A limb shifted by fewer than 32 bits joins what was carried into it. -/
theorem or_shift (s : Nat) (hs : s < 32) (c x : Int) (hc0 : 0 ≤ c) (hc1 : c < 2 ^ s) (hx0 : 0 ≤ x) (hx1 : x < 4294967296) :
  bits .or .u64 c (IntKind.u64.wrap (x * 2 ^ s)) = c + x * 2 ^ s ∧ 0 ≤ c + x * 2 ^ s ∧ c + x * 2 ^ s < 4294967296 * 2 ^ s ∧ c + x * 2 ^ s < 18446744073709551616 := by
 obtain ⟨x, rfl⟩ := Int.eq_ofNat_of_zero_le hx0
 have hp : (0 : Int) < 2 ^ s := by
  have : 0 < 2 ^ s := Nat.two_pow_pos s
  have e : ((2 ^ s : Nat) : Int) = (2 : Int) ^ s := by simp
  omega
 have hple : (2 : Int) ^ s ≤ 4294967296 := by
  have : 2 ^ s ≤ 2 ^ 32 := Nat.pow_le_pow_right (by omega) (by omega)
  have e : ((2 ^ s : Nat) : Int) = (2 : Int) ^ s := by simp
  omega
 have h1 : (x : Int) * 2 ^ s ≤ 4294967295 * 2 ^ s := Int.mul_le_mul_of_nonneg_right (by omega) (by omega)
 have h0 : 0 ≤ (x : Int) * 2 ^ s := Int.mul_nonneg hx0 (by omega)
 have h2 : (4294967296 : Int) * 2 ^ s = 4294967295 * 2 ^ s + 2 ^ s := by omega
 have h3 : (4294967296 : Int) * 2 ^ s ≤ 4294967296 * 4294967296 := Int.mul_le_mul_of_nonneg_left hple (by omega)
 refine ⟨?_, by omega, by omega, by omega⟩
 rw [IntWalk.u64_in _ ⟨h0, by omega⟩, u64_or c ((x : Int) * 2 ^ s) hc0 (by omega) h0 (by omega), Nat.or_comm]
 have e : ((x : Int) * 2 ^ s).toNat = x * 2 ^ s := by
  have e1 : (x : Int) * 2 ^ s = ((x * 2 ^ s : Nat) : Int) := by simp
  rw [e1]; rfl
 rw [nat_join s ((x : Int) * 2 ^ s).toNat c.toNat (by rw [e]; exact Nat.mul_mod_left _ _) (by
  have e2 : ((2 ^ s : Nat) : Int) = (2 : Int) ^ s := by simp
  omega)]
 omega

theorem shift_step (B : Nat) (h f : Nat → Int) (N wh i : Nat) (c p t : Int) (hi : wh + i < N) (ht : t - h (wh + i) = c + f i * p) (hv : val B h N + c * (B : Int) ^ (wh + i) = val B f i * p * (B : Int) ^ wh) :
  val B (put h (wh + i) (t % B)) N + t / B * (B : Int) ^ (wh + (i + 1)) = val B f (i + 1) * p * (B : Int) ^ wh := by
 have e1 : (B : Int) ^ (wh + (i + 1)) = (B : Int) ^ (wh + i) * B := by rw [← Nat.add_assoc, Int.pow_succ]
 rw [val_put B h N (wh + i) _ hi, e1, carry_step, ht]
 simp only [val]
 rw [Int.add_mul, ← Int.add_assoc, hv, Int.add_mul, Int.add_mul]
 have e2 : f i * p * (B : Int) ^ (wh + i) = f i * (B : Int) ^ i * p * (B : Int) ^ wh := by
  rw [Nat.add_comm wh i, Int.pow_add, ← Int.mul_assoc, Int.mul_assoc (f i) p, Int.mul_comm p, ← Int.mul_assoc]
 rw [e2]

set_option maxRecDepth 20000 in
set_option maxHeartbeats 2000000 in
theorem shiftUp_pos (v : Value) (x n : Nat) (w : World) (hv : Rep w v x) (hx : x ≠ 0) (hlx : nl W32 x ≤ 1000000) (hn : n ≤ 1048576) :
  Calls Tryz.prog 196 #[v, .int .i64 (n : Int)] w fun e w' => ∃ r, e = .returned r ∧ RepM w.heap.size w' r (x * 2 ^ n) ∧ Below w.heap.size w w' := by
 obtain ⟨i0, hi, hz0, hz1, hz2⟩ := info_parts info_u64
 obtain ⟨ao, c, rfl, hnc, hl, h4⟩ := hv
 have hl0 : 0 < nl W32 x := by
  rcases Nat.eq_zero_or_pos (nl W32 x) with e | e
  ·exact absurd ((nl_eq_zero W32 x (by decide)).1 e) hx
  ·exact e
 have VX : Hid (val W32 (dg W32 x) (nl W32 x) = (x : Int)) := val_nl W32 x (by decide)
 have UX := u32_dg x (nl W32 x)
 obtain ⟨b, off, rfl, hc⟩ := h4 hl0
 clear h4
 generalize nl W32 x = la at *
 have hblt := hc.lt hl0
 have hne : ((la : Int) == 0) = false := by simp; omega
 obtain ⟨wh, hwh⟩ : ∃ wh, wh = n / 32 := ⟨_, rfl⟩
 obtain ⟨s, hs⟩ : ∃ s, s = n % 32 := ⟨_, rfl⟩
 have hs32 : s < 32 := by omega
 have hwb : wh ≤ 32768 := by omega
 have HN : Hid (n = 32 * wh + s) := by show n = _; omega
 have d1 : ((n : Int) / 32) = (wh : Int) := by omega
 have d2 : ((n : Int) % 32) = (s : Int) := by omega
 clear hwh hs
 go_enter Tryz.func196, Tryz.ntmps196
 go_wp2_with (at_make; refine wpList_make_full _ rfl _ _ 40 rfl _ 90 i0 (.int .u64 0) 1 Tryz.underlying40 hi hz0 hz1 _ _ _ _ (la + wh + 1) rfl rfl (by omega) (by omega) (by rw [hz2]; omega) (by unfold maxLen; omega) (Nat.le_refl _) ?_; intro w1 hown hgrow)
 have hbl := below_grown hgrow
 obtain ⟨hc1, hs1⟩ := mine_made (k := .u64) (w := w) hown (fun _ => 0) (fun i hi => made_zero .u64 (la + wh + 1) i hi)
 clear hown hgrow
 have hsz := hbl.size
 go_loopw [8, 26] (fun vc vi wr => ∃ (i : Nat) (cr : Int) (h : Nat → Int), i ≤ la ∧ vc = .int .u64 cr ∧ vi = .int .i64 (i : Int) ∧ 0 ≤ cr ∧ cr < 2 ^ s ∧ Cells wr .u64 w.heap.size 0 (la + wh + 1) h ∧ U32 (la + wh + 1) h ∧ (∀ p, wh + i ≤ p → h p = 0) ∧
   val W32 h (la + wh + 1) + cr * (W32 : Int) ^ (wh + i) = val W32 (dg W32 x) i * 2 ^ s * (W32 : Int) ^ wh ∧ Soft wr w.heap.size 0 (la + wh + 1) ∧ Below w.heap.size w wr) (fun _ vi _ => la - (intOf vi).toNat)
 case atStart =>
  refine ⟨0, 0, fun _ => 0, Nat.zero_le _, rfl, rfl, Int.le_refl _, ?_, hc1, fun _ _ => ⟨Int.le_refl _, (by decide : (0 : Int) < (W32 : Int))⟩, fun _ _ => rfl, by rw [val_zero _ (fun _ _ => rfl)]; simp [val], hs1, hbl⟩
  have : 0 < 2 ^ s := Nat.two_pow_pos s
  have e : ((2 ^ s : Nat) : Int) = (2 : Int) ^ s := by simp
  omega
 case round =>
  obtain ⟨i, cr, h, hi', rfl, rfl, hc0, hcr, hch, hu, hz, hv, hsf, hbel⟩ := hrel
  have HV : Hid (val W32 h (la + wh + 1) + cr * (W32 : Int) ^ (wh + i) = val W32 (dg W32 x) i * 2 ^ s * (W32 : Int) ^ wh) := hv
  have HZ : Hid (∀ p, wh + i ≤ p → h p = 0) := hz
  clear hv hz
  have hs2 := hbel.size
  by_cases hlt : i < la
  ·have hca := (hc.below hbel hblt) i hlt
   have hcg : wr.cell? ⟨w.heap.size, wh + i, none⟩ = some (.int .u64 (h (wh + i))) := by have := hch (wh + i) (by omega); rw [Nat.zero_add] at this; exact this
   have hfr : wr.frozen? ⟨w.heap.size, wh + i, none⟩ = false := by have := hsf (wh + i) (by omega); rw [Nat.zero_add] at this; exact this
   have bx := UX i hlt
   unfold W32 at bx
   obtain ⟨ho, hb0, hb1, hb2⟩ := or_shift s hs32 cr (dg W32 x i) hc0 hcr bx.1 bx.2
   have HB1 : Hid (cr + dg W32 x i * 2 ^ s < 4294967296 * 2 ^ s) := hb1
   have hm := and_mask (cr + dg W32 x i * 2 ^ s) hb0 hb2
   clear hb1
   go_wp2
   go_roundw
   case rel =>
    refine ⟨i + 1, (cr + dg W32 x i * 2 ^ s) / (W32 : Int), put h (wh + i) ((cr + dg W32 x i * 2 ^ s) % (W32 : Int)), by omega, rfl, by go_num, by rw [W32c]; omega, ?_, ?_, ?_, ?_, ?_, hsf.set _ _, hbel.setCell (by simp) _⟩
    ·rw [W32c]; have := HB1.out; exact Int.ediv_lt_of_lt_mul (by omega) (by omega)
    ·have := hch.set (wh + i) (by omega) ((cr + dg W32 x i * 2 ^ s) % (W32 : Int)); rw [Nat.zero_add] at this; exact this
    ·exact put_bounds hu (by rw [W32c]; omega) (by rw [W32c]; omega)
    ·intro p hp; rw [put_other _ _ _ _ (by omega)]; exact HZ.out p (by omega)
    ·exact shift_step W32 h (dg W32 x) (la + wh + 1) wh i cr (2 ^ s) _ (by omega) (by rw [HZ.out _ (Nat.le_refl _)]; omega) HV.out
   case measure => simp [intOf]; omega
  ·have hil : i = la := by omega
   subst hil
   have hcg : wr.cell? ⟨w.heap.size, wh + i, none⟩ = some (.int .u64 (h (wh + i))) := by have := hch (wh + i) (by omega); rw [Nat.zero_add] at this; exact this
   have hfr : wr.frozen? ⟨w.heap.size, wh + i, none⟩ = false := by have := hsf (wh + i) (by omega); rw [Nat.zero_add] at this; exact this
   have hcr32 : cr < 4294967296 := by
    have : 2 ^ s ≤ 2 ^ 32 := Nat.pow_le_pow_right (by omega) (by omega)
    have e : ((2 ^ s : Nat) : Int) = (2 : Int) ^ s := by simp
    omega
   have hFin : Hid (val W32 (put h (wh + i) cr) (i + wh + 1) = ((x * 2 ^ n : Nat) : Int)) := by
    show _ = _
    have h1 := HV.out
    rw [VX.out] at h1
    rw [val_put _ _ _ _ _ (by omega), HZ.out _ (Nat.le_refl _), Int.sub_zero, h1, HN.out, Nat.pow_add, Nat.pow_mul]
    simp only [Int.natCast_mul, Int.natCast_pow]
    have e32 : (((2 : Nat) : Int) ^ 32) = (W32 : Int) := by decide
    rw [e32, Int.mul_comm ((W32 : Int) ^ wh), ← Int.mul_assoc]; rfl
   have hM : Mine .u64 w.heap.size (wr.setCell ⟨w.heap.size, wh + i, none⟩ (.int .u64 cr)) (.slice (some ⟨w.heap.size, 0, none⟩) (i + wh + 1) (i + wh + 1)) (i + wh + 1) (put h (wh + i) cr) := by
    refine ⟨_, _, rfl, Nat.le_refl _, by unfold LIM; omega, fun _ => ⟨_, _, rfl, ?_, hsf.set _ _, Nat.le_refl _⟩⟩
    have := hch.set (wh + i) (by omega) cr; rw [Nat.zero_add] at this; exact this
   go_wp2_with (go_at_call 168; refine (cut_mine _ _ _ _ _ _ hM (put_bounds hu hc0 (by unfold W32; omega)) hFin.out).mono ?_; rintro e w3 ⟨r, rfl, hr, rfl⟩)
   go_ret
   exact ⟨_, rfl, hr, hbel.setCell (by simp) _⟩

set_option maxRecDepth 20000 in
set_option maxHeartbeats 400000 in
theorem shiftUp_zero (ao : Option Addr) (c : Nat) (n : Int) (w : World) :
  Calls Tryz.prog 196 #[.slice ao 0 c, .int .i64 n] w fun e w' => e = .returned (.slice none 0 0) ∧ w' = w := by
 go_enter Tryz.func196, Tryz.ntmps196
 go_wp2
 go_ret
 exact ⟨rfl, rfl⟩

theorem shiftUp_any (v : Value) (x n : Nat) (w : World) (hv : Rep w v x) (hlx : nl W32 x ≤ 1000000) (hn : n ≤ 1048576) :
  Calls Tryz.prog 196 #[v, .int .i64 (n : Int)] w fun e w' => ∃ r, e = .returned r ∧ RepM w.heap.size w' r (x * 2 ^ n) ∧ Below w.heap.size w w' := by
 by_cases hx : x = 0
 ·subst hx
  obtain ⟨ao, c, rfl, _, _, _⟩ := hv
  rw [nl_zero]
  refine (shiftUp_zero ao c _ w).mono fun e w' ⟨he, hw⟩ => ⟨_, he, ?_, by rw [hw]; exact Below.refl _ _⟩
  rw [Nat.zero_mul]; unfold RepM; rw [nl_zero]; exact Mine.nil _ _ _ _
 ·exact shiftUp_pos v x n w hv hx hlx hn

theorem at0_dg32 (m i n : Nat) (hn : n = nl W32 m) : at0 (dg W32 m) n i = dg W32 m i := by
 unfold at0; split
 ·rfl
 ·rw [dg_high W32 m i]
  exact Nat.lt_of_lt_of_le (lt_pow_nl W32 m (by decide)) (Nat.pow_le_pow_right (by decide) (by omega))

/-- A limb of a number that is shifted down. -/
theorem down_digit (x wh s i : Nat) (hs : s < 32) : (dg W32 x (wh + i + 1) * 4294967296 + dg W32 x (wh + i)) / 2 ^ s % 4294967296 = dg W32 (x / 2 ^ (32 * wh + s)) i := by
 have e0 : x / 2 ^ (32 * wh + s) / W32 ^ i = x / W32 ^ (wh + i) / 2 ^ s := by
  rw [Nat.div_div_eq_div_mul, Nat.div_div_eq_div_mul]
  congr 1
  rw [Nat.pow_add, Nat.pow_add, Nat.pow_mul]
  have : 2 ^ 32 = W32 := by decide
  rw [this, Nat.mul_assoc, Nat.mul_comm (2 ^ s), ← Nat.mul_assoc]
 have e1 : dg W32 x (wh + i + 1) * 4294967296 + dg W32 x (wh + i) = ((x / W32 ^ (wh + i) % (W32 * W32) : Nat) : Int) := by
  unfold dg
  rw [Nat.pow_succ, ← Nat.div_div_eq_div_mul, Nat.mod_mul]
  simp only [Int.natCast_add, Int.natCast_mul]
  rw [W32c]; omega
 rw [e1]
 unfold dg
 rw [e0]
 generalize x / W32 ^ (wh + i) = y
 have e2 : W32 * W32 = 2 ^ s * 2 ^ (64 - s) := by rw [← Nat.pow_add, show s + (64 - s) = 64 by omega]; decide
 have e3 : y % (W32 * W32) / 2 ^ s = y / 2 ^ s % 2 ^ (64 - s) := by rw [e2, Nat.mod_mul_right_div_self]
 have e4 : ((y % (W32 * W32) : Nat) : Int) / 2 ^ s = ((y % (W32 * W32) / 2 ^ s : Nat) : Int) := by simp
 rw [e4, e3]
 have e5 : y / 2 ^ s % 2 ^ (64 - s) % W32 = y / 2 ^ s % W32 := Nat.mod_mod_of_dvd _ ⟨2 ^ (32 - s), by
  have : W32 = 2 ^ 32 := by decide
  rw [this, ← Nat.pow_add]; congr 1; omega⟩
 rw [← e5]; rfl

set_option maxRecDepth 20000 in
set_option maxHeartbeats 2000000 in
theorem shiftDown_pos (v : Value) (x n : Nat) (w : World) (hv : Rep w v x) (hlx : nl W32 x ≤ 1000000) (hn : n ≤ 9223372036854775807) (hlt : n / 32 < nl W32 x) :
  Calls Tryz.prog 198 #[v, .int .i64 (n : Int)] w fun e w' => ∃ r, e = .returned r ∧ RepM w.heap.size w' r (x / 2 ^ n) ∧ Below w.heap.size w w' := by
 obtain ⟨i0, hi, hz0, hz1, hz2⟩ := info_parts info_u64
 have hN := hv
 obtain ⟨ao, c, rfl, hnc, hl, h4⟩ := hv
 have UX := u32_dg x (nl W32 x)
 have HA : Hid (∀ i, at0 (dg W32 x) (nl W32 x) i = dg W32 x i) := fun i => at0_dg32 x i _ rfl
 have HU : Hid (∀ i, 0 ≤ dg W32 x i ∧ dg W32 x i < 4294967296) := fun i => dg_bounds W32 x i (by decide)
 have HL : Hid (x < W32 ^ nl W32 x) := lt_pow_nl W32 x (by decide)
 obtain ⟨b, off, rfl, hc⟩ := h4 (by omega)
 clear h4
 unfold Rep at hN
 generalize nl W32 x = la at *
 have hblt := hc.lt (by omega)
 obtain ⟨wh, hwh⟩ : ∃ wh, wh = n / 32 := ⟨_, rfl⟩
 obtain ⟨s, hs⟩ : ∃ s, s = n % 32 := ⟨_, rfl⟩
 have hs32 : s < 32 := by omega
 have hwb : wh < la := by omega
 have HN : Hid (n = 32 * wh + s) := by show n = _; omega
 have d1 : ((n : Int) / 32) = (wh : Int) := by omega
 have d2 : ((n : Int) % 32) = (s : Int) := by omega
 have hnw : ¬ (la : Int) ≤ (wh : Int) := by omega
 clear hwh hs hlt
 go_enter Tryz.func198, Tryz.ntmps198
 go_wp2_with (at_make; refine wpList_make_full _ rfl _ _ 40 rfl _ 90 i0 (.int .u64 0) 1 Tryz.underlying40 hi hz0 hz1 _ _ _ _ (la - wh) rfl rfl (by omega) (by omega) (by rw [hz2]; omega) (by unfold maxLen; omega) (Nat.le_refl _) ?_; intro w1 hown hgrow)
 have hbl := below_grown hgrow
 obtain ⟨hc1, hs1⟩ := mine_made (k := .u64) (w := w) hown (fun _ => 0) (fun i hi => made_zero .u64 (la - wh) i hi)
 clear hown hgrow
 have hsz := hbl.size
 go_loopw [24] (fun vi wr => ∃ (i : Nat), i ≤ la - wh ∧ vi = .int .i64 (i : Int) ∧ Cells wr .u64 w.heap.size 0 (la - wh) (upto (dg W32 (x / 2 ^ n)) i) ∧ Soft wr w.heap.size 0 (la - wh) ∧ Below w.heap.size w wr) (fun vi _ => la - wh - (intOf vi).toNat)
 case atStart => exact ⟨0, Nat.zero_le _, rfl, hc1.congr (fun i _ => by simp [upto]), hs1, hbl⟩
 case round =>
  obtain ⟨i, hi', rfl, hch, hsf, hbel⟩ := hrel
  have hs2 := hbel.size
  by_cases hlt : i < la - wh
  ·have hca : wr.cell? ⟨b, off + (wh + i), none⟩ = some (.int .u64 (dg W32 x (wh + i))) := (hc.below hbel hblt) (wh + i) (by omega)
   have hcg : wr.cell? ⟨w.heap.size, i, none⟩ = some (.int .u64 (upto (dg W32 (x / 2 ^ n)) i i)) := by have := hch i hlt; rw [Nat.zero_add] at this; exact this
   have hfr : wr.frozen? ⟨w.heap.size, i, none⟩ = false := by have := hsf i hlt; rw [Nat.zero_add] at this; exact this
   have hNr := hN.below hbel
   have hat := HA.out (wh + i + 1)
   have b1 := HU.out (wh + i + 1)
   have b0 := HU.out (wh + i)
   have hdd : Hid ((dg W32 x (wh + i + 1) * 4294967296 + dg W32 x (wh + i)) / 2 ^ s % 4294967296 = dg W32 (x / 2 ^ n) i) := by show _ = _; rw [HN.out]; exact down_digit x wh s i hs32
   generalize dg W32 x (wh + i + 1) = D1 at *
   generalize dg W32 x (wh + i) = D0 at *
   have ho := or_join' D1 D0 b1.1 b1.2 b0.1 b0.2
   have hp1 : (0 : Int) < 2 ^ s := by
    have : 0 < 2 ^ s := Nat.two_pow_pos s
    have e : ((2 ^ s : Nat) : Int) = (2 : Int) ^ s := by simp
    omega
   have hq0 : 0 ≤ (D1 * 4294967296 + D0) / 2 ^ s := Int.ediv_nonneg (by omega) (by omega)
   have hq1 : (D1 * 4294967296 + D0) / 2 ^ s < 18446744073709551616 := Int.lt_of_le_of_lt (Int.ediv_le_self _ (by omega)) (by omega)
   have hm := and_mask ((D1 * 4294967296 + D0) / 2 ^ s) hq0 hq1
   have i1 : (0 : Int) ≤ (wh : Int) + (i : Int) := by omega
   have i2 : (wh : Int) + (i : Int) < (la : Int) := by omega
   have i3 : (i : Int) < (la : Int) - (wh : Int) := by omega
   have hw1 : IntKind.i64.wrap ((wh : Int) + (i : Int)) = (wh : Int) + (i : Int) := by rw [IntKind.wrap_i64]; omega
   have hw2 : IntKind.i64.wrap ((wh : Int) + (i : Int) + 1) = (wh : Int) + (i : Int) + 1 := by rw [IntKind.wrap_i64]; omega
   have hnt : ((wh : Int) + (i : Int)).toNat = wh + i := by omega
   have hw3 : IntKind.u64.wrap (D1 * 4294967296) = D1 * 4294967296 := by rw [IntKind.wrap_u64]; omega
   go_wp2
   go_region_with (first | (go_at_call 170; refine (limb_any _ _ _ _ _ (by exact hNr) (by omega) (by unfold LIM; omega)).mono ?_; rintro e w2 ⟨rfl, rfl⟩; rw [show ((wh : Int) + (i : Int) + 1).toNat = wh + i + 1 by omega, hat]))
   all_goals
    go_wp2
    go_roundw
    case rel =>
     rw [hdd.out]
     refine ⟨i + 1, by omega, by go_num, ?_, hsf.set _ _, (hbel.setCell (by simp) _).drew⟩
     have := (hch.set i hlt (dg W32 (x / 2 ^ n) i)).congr (fun j _ => upto_put (dg W32 (x / 2 ^ n)) i j)
     rw [Nat.zero_add] at this; exact this
    case measure => simp [intOf]; omega
  ·have hil : i = la - wh := by omega
   have HV : Hid (val W32 (dg W32 (x / 2 ^ n)) (la - wh) = ((x / 2 ^ n : Nat) : Int)) := by
    show _ = _
    rw [val_dg, Nat.mod_eq_of_lt]
    have h1 := HL.out
    rw [HN.out, Nat.div_lt_iff_lt_mul (Nat.two_pow_pos _)]
    have h2 : W32 ^ la = W32 ^ (la - wh) * 2 ^ (32 * wh) := by
     rw [Nat.pow_mul, show 2 ^ 32 = W32 by decide, ← Nat.pow_add]; congr 1; omega
    have h3 : W32 ^ (la - wh) * 2 ^ (32 * wh) ≤ W32 ^ (la - wh) * 2 ^ (32 * wh + s) := Nat.mul_le_mul_left _ (Nat.pow_le_pow_right (by omega) (by omega))
    omega
   have hM : Mine .u64 w.heap.size wr (.slice (some ⟨w.heap.size, 0, none⟩) (la - wh) (la - wh)) (la - wh) (dg W32 (x / 2 ^ n)) :=
    ⟨_, _, rfl, Nat.le_refl _, by unfold LIM; omega, fun _ => ⟨_, _, rfl, hch.congr (fun j hj => upto_all _ _ _ (by omega)), hsf, Nat.le_refl _⟩⟩
   go_wp2_with (go_at_call 168; refine (cut_mine _ _ _ _ _ _ hM (u32_dg _ _) HV.out).mono ?_; rintro e w3 ⟨r, rfl, hr, rfl⟩)
   go_ret
   exact ⟨_, rfl, hr, hbel⟩

set_option maxRecDepth 20000 in
set_option maxHeartbeats 400000 in
theorem shiftDown_zero (v : Value) (x n : Nat) (w : World) (hv : Rep w v x) (hn : n ≤ 9223372036854775807) (hge : nl W32 x ≤ n / 32) :
  Calls Tryz.prog 198 #[v, .int .i64 (n : Int)] w fun e w' => e = .returned (.slice none 0 0) ∧ w' = w := by
 obtain ⟨ao, c, rfl, _, _, _⟩ := hv
 have h1 : (nl W32 x : Int) ≤ (n : Int) / 32 := by omega
 generalize nl W32 x = la at *
 go_enter Tryz.func198, Tryz.ntmps198
 go_wp2
 go_ret
 exact ⟨rfl, rfl⟩

theorem shiftDown_any (v : Value) (x n : Nat) (w : World) (hv : Rep w v x) (hlx : nl W32 x ≤ 1000000) (hn : n ≤ 9223372036854775807) :
  Calls Tryz.prog 198 #[v, .int .i64 (n : Int)] w fun e w' => ∃ r, e = .returned r ∧ RepM w.heap.size w' r (x / 2 ^ n) ∧ Below w.heap.size w w' := by
 by_cases h : n / 32 < nl W32 x
 ·exact shiftDown_pos v x n w hv hlx hn h
 ·refine (shiftDown_zero v x n w hv hn (by omega)).mono fun e w' ⟨he, hw⟩ => ⟨_, he, ?_, by rw [hw]; exact Below.refl _ _⟩
  have h0 : x / 2 ^ n = 0 := by
   apply Nat.div_eq_of_lt
   have h1 := lt_pow_nl W32 x (by decide)
   have h2 : W32 ^ nl W32 x ≤ W32 ^ (n / 32) := Nat.pow_le_pow_right (by decide) (by omega)
   have h3 : W32 ^ (n / 32) = 2 ^ (32 * (n / 32)) := by rw [Nat.pow_mul]
   have h4 : 2 ^ (32 * (n / 32)) ≤ 2 ^ n := Nat.pow_le_pow_right (by omega) (by omega)
   omega
  rw [h0]; unfold RepM; rw [nl_zero]; exact Mine.nil _ _ _ _

set_option maxRecDepth 20000 in
set_option maxHeartbeats 2000000 in
theorem guess_any (gr or_ cr gb ob cb m : Nat) (fr fb : Nat → Int) (w : World) (hm : m ≤ 1000000) (hr : Cells w .u64 gr or_ (m + 3) fr) (hb : Cells w .u64 gb ob (m + 2) fb)
  (ur : U32 (m + 3) fr) (ub : U32 (m + 2) fb) (htop : 2147483648 ≤ fb (m + 1)) (hfit : val W32 fr (m + 3) < val W32 fb (m + 2) * 4294967296) :
  Calls Tryz.prog 208 #[.slice (some ⟨gr, or_, none⟩) (m + 3) cr, .slice (some ⟨gb, ob, none⟩) (m + 2) cb] w fun e w' =>
   ∃ q : Int, e = .returned (.int .u64 q) ∧ (0 ≤ q ∧ q < 4294967296 ∧ val W32 fr (m + 3) < (q + 1) * val W32 fb (m + 2) ∧ q * val W32 fb (m + 2) < val W32 fr (m + 3) + val W32 fb (m + 2)) ∧ Below w.heap.size w w' := by
 have K := kn_rows m fb fr ub ur htop hfit
 have r0 := hr m (by omega)
 have r1 := hr (m + 1) (by omega)
 have r2 := hr (m + 2) (by omega)
 have b0 := hb m (by omega)
 have b1 := hb (m + 1) (by omega)
 have u0 := ur m (by omega)
 have u1 := ur (m + 1) (by omega)
 have u2 := ur (m + 2) (by omega)
 have hrn := K.top rfl u1.1 u1.2
 rw [W32c] at u0 u1 u2
 have HK : Hid (Kn (fb (m + 1)) (fb m) (fr (m + 2) * 4294967296 + fr (m + 1)) (fr m) ((W32 : Int) ^ m) (val W32 fb (m + 2)) (val W32 fr (m + 3))) := K
 have kh0 := K.h0
 have kh1 := K.h1
 have kg0 := K.g0
 have kg1 := K.g1
 clear K hr hb htop hfit ur ub
 generalize val W32 fr (m + 3) = R at *
 generalize val W32 fb (m + 2) = D at *
 generalize fb (m + 1) = h at *
 generalize fb m = g at *
 generalize fr (m + 2) = rn at *
 generalize fr (m + 1) = rm at *
 generalize fr m = e at *
 have hor := or_join' rn rm u2.1 u2.2 u1.1 u1.2
 have hw3 : IntKind.u64.wrap (rn * 4294967296) = rn * 4294967296 := by rw [IntKind.wrap_u64]; omega
 have hT0 : 0 ≤ rn * 4294967296 + rm := by omega
 have hT1 : rn * 4294967296 + rm < 18446744073709551616 := by omega
 have i1 : ((m : Int) + 2 - 1) = (m : Int) + 1 := by omega
 have i2 : ((m : Int) + 2 - 2) = (m : Int) := by omega
 go_enter Tryz.func208, Tryz.ntmps208
 go_wp2
 go_quiet (fail)
 go_wp2
 go_quiet (fail)
 go_wp2
 generalize hT : rn * 4294967296 + rm = T at *
 have hne : ¬ h = 0 := by omega
 have htm : T.tmod h = T % h := Int.tmod_eq_emod_of_nonneg hT0
 have htd := wrap_tdiv T h hT0 hT1 (by omega)
 go_quiet (fail)
 generalize hWw : ((w.drewN _).drewN _).drewN _ = w3
 have hbw : Below w.heap.size w w3 := by rw [← hWw]; exact below_drewN (below_drewN (below_drewN (Below.refl _ _) _) _) _
 have hTb : T ≤ h * 4294967296 + 4294967295 := by omega
 have hq0 : 0 ≤ T / h := Int.ediv_nonneg hT0 (by omega)
 have hdm : Hid (T / h * h + T % h = T) := by show _ = _; have := Int.emod_add_mul_ediv T h; rw [Int.mul_comm]; omega
 have hm0 : 0 ≤ T % h := Int.emod_nonneg _ hne
 have hm1 : T % h < h := Int.emod_lt_of_pos _ (by omega)
 have hst : Hid (R < (T / h + 1) * D) := HK.out.start
 have hqb : T / h ≤ 4294967297 := by
  have : T / h < 4294967298 := Int.ediv_lt_of_lt_mul (by omega) (by omega)
  omega
 have hgr : gr < w.heap.size := World.block_lt_of_cell? _ _ r0
 have HR0 : Hid (w.cell? ⟨gr, or_ + m, none⟩ = some (.int .u64 e)) := r0
 clear htm htd hor hw3 r1 r2 b0 b1 r0 hWw hT
 generalize T / h = q0 at *
 generalize T % h = r0' at *
 go_wp2
 go_loopw [9, 10] (fun vq vr wr => ∃ (q r : Int), vq = .int .u64 q ∧ vr = .int .u64 r ∧ 0 ≤ q ∧ q ≤ 4294967297 ∧ q * h + r = T ∧ 0 ≤ r ∧ r < 4294967296 ∧ R < (q + 1) * D ∧ Below w.heap.size w wr) (fun vq _ _ => (intOf vq).toNat)
 case atStart => exact ⟨q0, r0', rfl, rfl, hq0, hqb, hdm.out, hm0, by omega, hst.out, hbw⟩
 case round =>
  clear hq0 hqb hdm hm0 hm1 hst hbw
  obtain ⟨q, r, rfl, rfl, hq0, hqb, hdm, hr0, hr1, hlt, hbel⟩ := hrel
  have HDM : Hid (q * h + r = T) := hdm
  have HLT : Hid (R < (q + 1) * D) := hlt
  have hcell : wr.cell? ⟨gr, or_ + m, none⟩ = some (.int .u64 e) := (hbel.cell (by exact hgr)).trans HR0.out
  have hstep : Hid ((q - 1) * h + (r + h) = T) := by show _ = _; rw [Int.sub_mul, Int.one_mul]; omega
  clear hdm hlt
  by_cases hbig : 4294967295 < q
  ·have hlt' : Hid (R < (q - 1 + 1) * D) := by show R < _; rw [Int.sub_add_cancel]; exact HK.out.big (by omega)
   by_cases hbr : 4294967295 < r + h
   ·have hq1 : q < 4294967297 := by
     by_cases c : q < 4294967297
     ·exact c
     ·exfalso
      have e1 : q = 4294967297 := by omega
      have e2 := HDM.out
      rw [e1] at e2; omega
    go_wp2
    go_ret
    refine ⟨q - 1, rfl, ⟨by omega, by omega, hlt'.out, ?_⟩, hbel⟩
    exact HK.out.done (q := q - 1) (r := r + h) (by omega) (by omega) hstep.out (by
     have := mul_le_mul32 (q - 1) g (by omega) (by omega) kg0 kg1; omega)
   ·go_wp2
    go_roundw
    case rel => exact ⟨q - 1, r + h, rfl, rfl, by omega, by omega, hstep.out, by omega, by omega, hlt'.out, hbel⟩
    case measure => simp [intOf]; omega
  ·have hqd : decide (4294967295 < q) = false := by simp; omega
   have hxy := mul_le_mul32 q g hq0 (by omega) kg0 kg1
   have hor2 := or_join' r e hr0 hr1 u0.1 u0.2
   by_cases htest : r * 4294967296 + e < q * g
   ·have hqp : 0 < q := by
     by_cases c : q = 0
     ·rw [c, Int.zero_mul] at htest; omega
     ·omega
    have hlt' : Hid (R < (q - 1 + 1) * D) := by show R < _; rw [Int.sub_add_cancel]; exact HK.out.test hq0 HDM.out htest
    by_cases hbr : 4294967295 < r + h
    ·go_wp2
     go_ret
     refine ⟨q - 1, rfl, ⟨by omega, by omega, hlt'.out, ?_⟩, hbel⟩
     exact HK.out.done (q := q - 1) (r := r + h) (by omega) (by omega) hstep.out (by
      have := mul_le_mul32 (q - 1) g (by omega) (by omega) kg0 kg1; omega)
    ·go_wp2
     go_roundw
     case rel => exact ⟨q - 1, r + h, rfl, rfl, by omega, by omega, hstep.out, by omega, by omega, hlt'.out, hbel⟩
     case measure => simp [intOf]; omega
   ·go_wp2
    go_ret
    exact ⟨q, rfl, ⟨hq0, by omega, HLT.out, HK.out.done hq0 (by omega) HDM.out (by omega)⟩, hbel⟩

theorem sub_step (B : Nat) (h g : Nat → Int) (N i : Nat) (c q t S : Int) (hi : i < N) (ht : t = c + q * g i) (hv : val B h N - c * (B : Int) ^ i = S - q * val B g i) :
  val B (put h i ((h i - t % B) % B)) N - (t / B + (0 - (h i - t % B) / B)) * (B : Int) ^ (i + 1) = S - q * val B g (i + 1) := by
 have e1 : (B : Int) ^ (i + 1) = (B : Int) ^ i * B := Int.pow_succ _ _
 have f1 := Int.emod_add_mul_ediv t B
 rw [val_put B h N i _ hi, e1]
 have c1 := carry_step (B : Int) (h i - t % B) (h i) ((B : Int) ^ i) (val B h N)
 generalize (h i - t % (B : Int)) / (B : Int) = z at *
 generalize (h i - t % (B : Int)) % (B : Int) = y at *
 have c2 : (t / B + (0 - z)) * ((B : Int) ^ i * B) = t / B * ((B : Int) ^ i * B) - z * ((B : Int) ^ i * B) := by
  rw [Int.add_mul, Int.sub_mul, Int.zero_mul]; omega
 have c3 : (h i - t % B - h i) * (B : Int) ^ i = 0 - t % B * (B : Int) ^ i := by
  rw [show h i - t % B - h i = 0 - t % B by omega, Int.sub_mul, Int.zero_mul]
 have c4 : t / B * ((B : Int) ^ i * B) + t % B * (B : Int) ^ i = t * (B : Int) ^ i := by
  have : t / B * ((B : Int) ^ i * B) = B * (t / B) * (B : Int) ^ i := by rw [Int.mul_comm ((B : Int) ^ i), ← Int.mul_assoc, Int.mul_comm (t / B)]
  rw [this, ← Int.add_mul]; congr 1; omega
 have c5 : t * (B : Int) ^ i = c * (B : Int) ^ i + q * (g i * (B : Int) ^ i) := by rw [ht, Int.add_mul, Int.mul_assoc]
 simp only [val]
 rw [Int.mul_add]
 omega

theorem carry_bound (a t : Int) (ha0 : 0 ≤ a) (ha : a < 4294967296) (ht0 : 0 ≤ t) (ht : t ≤ 18446744069414584320) :
  0 ≤ t / 4294967296 + (0 - (a - t % 4294967296) / 4294967296) ∧ t / 4294967296 + (0 - (a - t % 4294967296) / 4294967296) < 4294967296 := by omega

/-- The limb was right. -/
theorem step_right (R D q V rn c P : Int) (hD : 0 < D) (hDP : D ≤ P) (h1 : R < (q + 1) * D) (hV0 : 0 ≤ V) (hv : R - q * D = V + (rn - c) * P) (hc : c ≤ rn) : q = R / D ∧ V = R % D := by
 have hP : 0 < P := by omega
 have e0 : (q + 1) * D = q * D + D := by rw [Int.add_mul, Int.one_mul]
 have hrc : rn - c = 0 := by
  by_cases z : rn - c = 0
  ·exact z
  ·have := Int.mul_le_mul_of_nonneg_right (show 1 ≤ rn - c by omega) (Int.le_of_lt hP)
   rw [Int.one_mul] at this; omega
 rw [hrc, Int.zero_mul] at hv
 have hR : R = V + q * D := by omega
 refine ⟨?_, ?_⟩
 ·rw [hR, Int.add_mul_ediv_right _ _ (by omega), Int.ediv_eq_zero_of_lt hV0 (by omega)]; omega
 ·rw [hR, Int.add_mul_emod_self_right, Int.emod_eq_of_lt hV0 (by omega)]

/-- The limb was one too great: the divisor is given back. -/
theorem step_back (R D q V V2 rn c cr P : Int) (hD : 0 < D) (hDP : D ≤ P) (h1 : q * D < R + D) (hV1 : V < P) (hV20 : 0 ≤ V2) (hV21 : V2 < P) (hv : R - q * D = V + (rn - c) * P) (hc : rn < c) (h2 : V2 + cr * P = V + D) : q - 1 = R / D ∧ V2 = R % D := by
 have hP : 0 < P := by omega
 have a1 : (rn - c) * P ≤ -1 * P := Int.mul_le_mul_of_nonneg_right (by omega) (Int.le_of_lt hP)
 have e0 : (q - 1) * D = q * D - D := by rw [Int.sub_mul, Int.one_mul]
 have hs : R - (q - 1) * D = V2 + (cr + (rn - c)) * P := by rw [Int.add_mul]; omega
 have hz : cr + (rn - c) = 0 := by
  by_cases z : cr + (rn - c) = 0
  ·exact z
  ·by_cases y : 0 < cr + (rn - c)
   ·have := Int.mul_le_mul_of_nonneg_right (show 1 ≤ cr + (rn - c) by omega) (Int.le_of_lt hP)
    rw [Int.one_mul] at this; omega
   ·have := Int.mul_le_mul_of_nonneg_right (show cr + (rn - c) ≤ -1 by omega) (Int.le_of_lt hP)
    omega
 rw [hz, Int.zero_mul] at hs
 have hlt : V2 < D := by omega
 have hR : R = V2 + (q - 1) * D := by omega
 refine ⟨?_, ?_⟩
 ·rw [hR, Int.add_mul_ediv_right _ _ (by omega), Int.ediv_eq_zero_of_lt hV20 hlt]; omega
 ·rw [hR, Int.add_mul_emod_self_right, Int.emod_eq_of_lt hV20 hlt]

theorem wrap_diff2 (a b : Int) (ha0 : 0 ≤ a) (ha : a < 4294967296) (hb0 : 0 ≤ b) (hb : b < 4294967296) :
  bits .and .u64 (IntKind.u64.wrap (a - b)) 4294967295 = (a - b) % 4294967296 ∧ IntKind.u64.wrap (a - b) / 9223372036854775808 = 0 - (a - b) / 4294967296 := by
 have e : IntKind.u64.wrap (a - b) = (a - b) % 18446744073709551616 := IntKind.wrap_u64 _
 rw [e, and_mask _ (by omega) (by omega)]
 constructor <;> omega

set_option maxRecDepth 20000 in
set_option maxHeartbeats 2000000 in
theorem divStep_any (gr or_ cr gb ob cb m : Nat) (fr fb : Nat → Int) (w : World) (hm : m ≤ 1000000) (hcap : m + 3 ≤ cr) (hr : Cells w .u64 gr or_ (m + 3) fr) (hs : Soft w gr or_ (m + 3)) (hb : Cells w .u64 gb ob (m + 2) fb) (hcb : m + 2 ≤ cb) (hne : gb ≠ gr)
  (ur : U32 (m + 3) fr) (ub : U32 (m + 2) fb) (htop : 2147483648 ≤ fb (m + 1)) (hfit : val W32 fr (m + 3) < val W32 fb (m + 2) * 4294967296) :
  Calls Tryz.prog 197 #[.slice (some ⟨gr, or_, none⟩) (m + 3) cr, .slice (some ⟨gb, ob, none⟩) (m + 2) cb] w fun e w' =>
   e = .returned (.int .u64 (val W32 fr (m + 3) / val W32 fb (m + 2))) ∧ ∃ h : Nat → Int, Cells w' .u64 gr or_ (m + 2) h ∧ U32 (m + 2) h ∧ val W32 h (m + 2) = val W32 fr (m + 3) % val W32 fb (m + 2) ∧ Upd w w' gr or_ (m + 2) := by
 have hgr := hr.lt (show 0 < m + 3 by omega)
 have K := kn_rows m fb fr ub ur htop hfit
 have HDp : Hid (0 < val W32 fb (m + 2)) := K.Dpos
 have HDP : Hid (val W32 fb (m + 2) ≤ (W32 : Int) ^ (m + 2)) := Int.le_of_lt (val_bounds W32 fb (m + 2) ub).2
 have HR : Hid (val W32 fr (m + 3) = val W32 fr (m + 2) + fr (m + 2) * (W32 : Int) ^ (m + 2)) := rfl
 go_enter Tryz.func197, Tryz.ntmps197
 go_wp2_with fail
 refine (guess_any gr or_ cr gb ob cb m fr fb w hm hr hb ur ub htop hfit).mono ?_
 rintro e w1 ⟨q, rfl, ⟨hq0, hq1, hql, hqu⟩, hb1⟩
 have HQL : Hid (val W32 fr (m + 3) < (q + 1) * val W32 fb (m + 2)) := hql
 have HQU : Hid (q * val W32 fb (m + 2) < val W32 fr (m + 3) + val W32 fb (m + 2)) := hqu
 have hgb := hb.lt (show 0 < m + 2 by omega)
 have hr1 := hr.below hb1 hgr
 have hs1 := hs.below hb1 hgr
 have hb1' := hb.below hb1 hgb
 have hu1 : Upd w w1 gr or_ (m + 2) := Upd.of_below hb1 hgr
 clear hql hqu K htop hfit hr hs hb
 go_wp2
 have hrt := hr1 (m + 2) (by omega)
 have hrw : Cells w1 .u64 gr or_ (m + 2) fr := hr1.mono (by omega)
 have urw : U32 (m + 2) fr := fun i hi => ur i (by omega)
 have hsw : Soft w1 gr or_ (m + 2) := hs1.mono (by omega)
 have hgr1 := hrw.lt (show 0 < m + 2 by omega)
 have urt := ur (m + 2) (by omega)
 rw [W32c] at urt
 clear hr1 hs1 hu1
 go_loopw [7, 22] (fun vc vi wr => ∃ (i : Nat) (c : Int) (h : Nat → Int), i ≤ m + 2 ∧ vc = .int .u64 c ∧ vi = .int .i64 (i : Int) ∧ 0 ≤ c ∧ c < 4294967296 ∧ Cells wr .u64 gr or_ (m + 2) h ∧ U32 (m + 2) h ∧
   val W32 h (m + 2) - c * (W32 : Int) ^ i = val W32 fr (m + 2) - q * val W32 fb i ∧ Upd w1 wr gr or_ (m + 2)) (fun _ vi _ => m + 2 - (intOf vi).toNat)
 case atStart => exact ⟨0, 0, fr, Nat.zero_le _, rfl, rfl, Int.le_refl _, by decide, hrw, urw, by simp [val], Upd.refl _ _ _ _⟩
 case round =>
  obtain ⟨i, c, h, hi, rfl, rfl, hc0, hc1, hch, huh, hval, hupd⟩ := hrel
  have HV : Hid (val W32 h (m + 2) - c * (W32 : Int) ^ i = val W32 fr (m + 2) - q * val W32 fb i) := hval
  clear hval
  by_cases hlt : i < m + 2
  ·have hcb : wr.cell? ⟨gb, ob + i, none⟩ = some (.int .u64 (fb i)) := (hb1'.upd hupd (.inl hne)) i hlt
   have hca := hch i hlt
   have hfr := (hsw.upd hgr1 hupd) i hlt
   have bx := ub i hlt
   have bh := huh i hlt
   rw [W32c] at bx bh
   have hxy := mul_le_mul32 q (fb i) hq0 hq1 bx.1 bx.2
   have hqx := Int.mul_nonneg hq0 bx.1
   have hm := and_mask (c + q * fb i) (by omega) (by omega)
   obtain ⟨hm2, hq2⟩ := wrap_diff2 (h i) ((c + q * fb i) % 4294967296) bh.1 bh.2 (by omega) (by omega)
   have hcb2 := carry_bound (h i) (c + q * fb i) bh.1 bh.2 (by omega) (by omega)
   have hmm : (h i - (c + q * fb i) % (W32 : Int)) % (W32 : Int) = (h i - (c + q * fb i)) % (W32 : Int) := by rw [W32c]; omega
   have HMM := show Hid ((h i - (c + q * fb i) % (W32 : Int)) % (W32 : Int) = (h i - (c + q * fb i)) % (W32 : Int)) from hmm
   clear hmm
   go_wp2
   go_roundw
   case rel =>
    refine ⟨i + 1, (c + q * fb i) / (W32 : Int) + (0 - (h i - (c + q * fb i) % (W32 : Int)) / (W32 : Int)), put h i ((h i - (c + q * fb i)) % (W32 : Int)), by omega, ?_, by go_num, by rw [W32c]; exact hcb2.1, by rw [W32c]; exact hcb2.2, hch.set i (by omega) _, put_bounds huh (by rw [W32c]; omega) (by rw [W32c]; omega), ?_, ?_⟩
    ·rw [W32c, Int.zero_sub]
    ·rw [← HMM.out]; exact sub_step W32 h fb (m + 2) i c q _ _ (by omega) rfl HV.out
    ·exact hupd.trans (Upd.set i (by omega) _)
   case measure => simp [intOf]; omega
  ·have hib : i = m + 2 := by omega
   subst hib
   have hrt' : wr.cell? ⟨gr, or_ + (m + 2), none⟩ = some (.int .u64 (fr (m + 2))) := (hupd.cell _ (by omega)).trans hrt
   have hbnd := val_bounds W32 h (m + 2) huh
   have hkey : val W32 fr (m + 3) - q * val W32 fb (m + 2) = val W32 h (m + 2) + (fr (m + 2) - c) * (W32 : Int) ^ (m + 2) := by
    have h1 := HV.out
    have h2 := HR.out
    rw [Int.sub_mul]; omega
   have HK : Hid (val W32 fr (m + 3) - q * val W32 fb (m + 2) = val W32 h (m + 2) + (fr (m + 2) - c) * (W32 : Int) ^ (m + 2)) := hkey
   clear hkey
   by_cases hcm : c ≤ fr (m + 2)
   ·obtain ⟨s1, s2⟩ := step_right _ _ q _ (fr (m + 2)) c _ HDp.out HDP.out HQL.out hbnd.1 HK.out hcm
    have S1 : Hid (q = val W32 fr (m + 3) / val W32 fb (m + 2)) := s1
    have S2 : Hid (val W32 h (m + 2) = val W32 fr (m + 3) % val W32 fb (m + 2)) := s2
    clear s1 s2 hbnd
    go_wp2
    go_ret
    exact ⟨ret_int S1.out, h, hch, huh, S2.out, (Upd.of_below hb1 hgr).trans hupd⟩
   ·have hbr : Nums .u64 wr (.slice (some ⟨gb, ob, none⟩) (m + 2) cb) (m + 2) fb := ⟨_, _, rfl, hcb, by unfold LIM; omega, fun _ => ⟨_, _, rfl, hb1'.upd hupd (.inl hne)⟩⟩
    have HB : Hid (val W32 h (m + 2) < (W32 : Int) ^ (m + 2)) := hbnd.2
    clear hbnd
    go_wp2_with fail
    refine (addLimbs_any gr or_ (m + 2) cr _ (m + 2) h fb wr (by unfold LIM; omega) (Nat.le_refl _) hch (hsw.upd hgr1 hupd) huh hbr ub (fun _ b o c e => by injection e with e1; injection e1 with e2; injection e2 with e3; omega)).mono ?_
    rintro e w2 ⟨k, h2, rfl, hk0, hk1, hc2, hu2, _, hv2, hup2⟩
    have hb2 := val_bounds W32 h2 (m + 2) hu2
    obtain ⟨s1, s2⟩ := step_back _ _ q _ _ (fr (m + 2)) c k _ HDp.out HDP.out HQU.out HB.out hb2.1 hb2.2 HK.out (by omega) hv2
    have S1 : Hid (q - 1 = val W32 fr (m + 3) / val W32 fb (m + 2)) := s1
    have S2 : Hid (val W32 h2 (m + 2) = val W32 fr (m + 3) % val W32 fb (m + 2)) := s2
    have hq1' : 0 ≤ q - 1 := by
     have h1 : 0 ≤ val W32 fr (m + 3) := (val_bounds W32 fr (m + 3) ur).1
     rw [s1]; exact Int.ediv_nonneg h1 (Int.le_of_lt HDp.out)
    clear s1 s2 hv2 hb2
    go_wp2
    go_ret
    exact ⟨ret_int S1.out, h2, hc2, hu2, S2.out, ((Upd.of_below hb1 hgr).trans hupd).trans hup2⟩

/-- Shifted up so far that its highest bit is set, a number keeps its limbs' count. -/
theorem norm_num (y m s : Nat) (hm : nl W32 y = m + 2) (hs : s = 32 - Lib.bitLen (dg W32 y (m + 1)).toNat) :
  s ≤ 31 ∧ Lib.bitLen (dg W32 y (m + 1)).toNat = 32 - s ∧ nl W32 (y * 2 ^ s) = m + 2 ∧ 2147483648 ≤ dg W32 (y * 2 ^ s) (m + 1) := by
 have hlt := lt_pow_nl W32 y (by decide)
 have hge := pow_le_of_nl W32 y (by omega)
 rw [hm] at hlt hge
 rw [show m + 2 - 1 = m + 1 by omega] at hge
 have hP : 0 < W32 ^ (m + 1) := Nat.pow_pos (by decide)
 have e2 : W32 ^ (m + 2) = W32 ^ (m + 1) * 4294967296 := Nat.pow_succ _ _
 have etop : (dg W32 y (m + 1)).toNat = y / W32 ^ (m + 1) := by
  unfold dg
  rw [Int.toNat_natCast, Nat.mod_eq_of_lt]
  exact Nat.div_lt_of_lt_mul (by rw [e2] at hlt; exact hlt)
 rw [etop] at hs ⊢
 have hdm := Nat.div_add_mod y (W32 ^ (m + 1))
 have hml := Nat.mod_lt y hP
 have ht1 : 1 ≤ y / W32 ^ (m + 1) := (Nat.le_div_iff_mul_le hP).2 (by omega)
 have ht2 : y / W32 ^ (m + 1) < 4294967296 := Nat.div_lt_of_lt_mul (by rw [e2] at hlt; exact hlt)
 generalize y / W32 ^ (m + 1) = t at *
 generalize y % W32 ^ (m + 1) = r at *
 obtain ⟨b1, b2, b3⟩ := bitLen_pow t (by omega) (by omega)
 have b4 : Lib.bitLen t ≤ 32 := Lib.bitLen_le t 32 (by omega) (by omega)
 generalize Lib.bitLen t = L at *
 generalize hPP : W32 ^ (m + 1) = P at *
 have p1 : 2 ^ (L - 1) * 2 ^ s = 2147483648 := by rw [← Nat.pow_add, show L - 1 + s = 31 by omega]
 have p2 : 2 ^ L * 2 ^ s = 4294967296 := by rw [← Nat.pow_add, show L + s = 32 by omega]
 have hup : y * 2 ^ s < P * 4294967296 := by
  have h1 : y < 2 ^ L * P := by
   have h3 : (t + 1) * P ≤ 2 ^ L * P := Nat.mul_le_mul_right P b2
   rw [Nat.add_mul, Nat.one_mul, Nat.mul_comm t] at h3
   omega
  have h2 : y * 2 ^ s < 2 ^ L * P * 2 ^ s := (Nat.mul_lt_mul_right (Nat.two_pow_pos s)).2 h1
  rw [Nat.mul_right_comm, p2, Nat.mul_comm 4294967296] at h2; exact h2
 have hlo : P * 2147483648 ≤ y * 2 ^ s := by
  have h1 : 2 ^ (L - 1) * P ≤ y := by
   have h3 : 2 ^ (L - 1) * P ≤ t * P := Nat.mul_le_mul_right P b1
   rw [Nat.mul_comm t] at h3; omega
  have h2 : 2 ^ (L - 1) * P * 2 ^ s ≤ y * 2 ^ s := Nat.mul_le_mul_right _ h1
  rw [Nat.mul_right_comm, p1, Nat.mul_comm 2147483648] at h2; exact h2
 refine ⟨by omega, by omega, ?_, ?_⟩
 ·have h1 := nl_le W32 (y * 2 ^ s) (m + 2) (by decide) (by rw [e2]; exact hup)
  have h2 := lt_pow_nl W32 (y * 2 ^ s) (by decide)
  by_cases h3 : nl W32 (y * 2 ^ s) ≤ m + 1
  ·have h4 : W32 ^ nl W32 (y * 2 ^ s) ≤ W32 ^ (m + 1) := Nat.pow_le_pow_right (by decide) h3
   rw [hPP] at h4
   omega
  ·omega
 ·unfold dg
  have h1 : y * 2 ^ s / W32 ^ (m + 1) < 4294967296 := Nat.div_lt_of_lt_mul (by rw [hPP]; exact hup)
  have h2 : 2147483648 ≤ y * 2 ^ s / W32 ^ (m + 1) := (Nat.le_div_iff_mul_le (by rw [hPP]; exact hP)).2 (by rw [hPP, Nat.mul_comm]; exact hlo)
  rw [Nat.mod_eq_of_lt h1]; omega

/-- The limbs of a row with others laid from i on. -/
def lay (h h2 : Nat → Int) (i n : Nat) : Nat → Int := fun j => if i ≤ j ∧ j < i + n then h2 (j - i) else h j
theorem lay_low (h h2 : Nat → Int) (i n j : Nat) (hj : j < i) : lay h h2 i n j = h j := by unfold lay; rw [if_neg (by omega)]
theorem lay_in (h h2 : Nat → Int) (i n j : Nat) (hj : j < n) : lay h h2 i n (i + j) = h2 j := by unfold lay; rw [if_pos (by omega), Nat.add_sub_cancel_left]
theorem val_lay (B : Nat) (h h2 : Nat → Int) (i n : Nat) : val B (lay h h2 i n) (i + n) = val B h i + val B h2 n * (B : Int) ^ i := by
 rw [val_add, val_congr i (fun j hj => lay_low h h2 i n j hj), val_congr n (fun j hj => lay_in h h2 i n j hj)]

theorem val_head (B : Nat) (f : Nat → Int) (n : Nat) : val B f (n + 1) = f 0 + val B (fun j => f (j + 1)) n * B := by
 rw [Nat.add_comm, val_add]; simp [val, Nat.add_comm, Int.pow_succ]

/-- One limb of the quotient: what the rows say ahead of a step they say behind it. -/
theorem long_step (B : Nat) (X D : Int) (h h2 g : Nat → Int) (i n N : Nat) (hi : i < N) (hg : g i = 0)
  (hX : X = val B h (i + 1 + n) + D * val B g N) (hr : val B h2 n = val B (fun j => h (i + j)) (n + 1) % D) :
  X = val B (lay h h2 i n) (i + n) + D * val B (put g i (val B (fun j => h (i + j)) (n + 1) / D)) N := by
 have e1 : val B h (i + 1 + n) = val B h i + val B (fun j => h (i + j)) (n + 1) * (B : Int) ^ i := by
  rw [show i + 1 + n = i + (n + 1) by omega, val_add]
 rw [val_lay, val_put B g N i _ hi, hg, Int.sub_zero, hr, hX, e1]
 generalize val B (fun j => h (i + j)) (n + 1) = R
 have h1 := Int.emod_add_mul_ediv R D
 generalize R / D = z at *
 generalize R % D = r at *
 rw [← h1, Int.add_mul, Int.mul_add, Int.mul_assoc]; omega

theorem long_fit (B : Nat) (D : Int) (h : Nat → Int) (i n : Nat) (hb : h i < (B : Int)) (hB : 0 < B) (hl : val B (fun j => h (i + 1 + j)) n < D) : val B (fun j => h (i + j)) (n + 1) < D * B := by
 rw [val_head]
 have e : val B (fun j => h (i + (j + 1))) n = val B (fun j => h (i + 1 + j)) n := val_congr n (fun j _ => by rw [Nat.add_assoc, Nat.add_comm 1])
 rw [e]
 have h1 : (val B (fun j => h (i + 1 + j)) n + 1) * (B : Int) ≤ D * B := Int.mul_le_mul_of_nonneg_right (by omega) (by omega)
 rw [Int.add_mul, Int.one_mul] at h1
 simp only [Nat.add_zero]
 omega

/-- Ahead of the first step what is left of the highest limbs is below the divisor. -/
theorem long_start (x y s la m : Nat) (hx : x < W32 ^ la) (hy : nl W32 y = m + 2) (hle : m + 2 ≤ la) :
  x * 2 ^ s / W32 ^ (la - (m + 2) + 1) < y * 2 ^ s := by
 have h1 := pow_le_of_nl W32 y (by omega)
 rw [hy] at h1
 refine Nat.div_lt_of_lt_mul ?_
 rw [← Nat.mul_assoc]
 refine (Nat.mul_lt_mul_right (Nat.two_pow_pos s)).2 (Nat.lt_of_lt_of_le hx ?_)
 have h2 : W32 ^ (la - (m + 2) + 1) * W32 ^ (m + 2 - 1) ≤ W32 ^ (la - (m + 2) + 1) * y := Nat.mul_le_mul_left _ h1
 rw [← Nat.pow_add, show la - (m + 2) + 1 + (m + 2 - 1) = la by omega] at h2
 exact h2

theorem val_from (B m k n : Nat) : val B (fun j => dg B m (k + j)) n = ((m / B ^ k % B ^ n : Nat) : Int) := by
 rw [← val_dg]
 refine val_congr n (fun j _ => ?_)
 unfold dg
 rw [Nat.pow_add, Nat.div_div_eq_div_mul]

/-- 'copy' of a slice into a block of zeros. -/
theorem copy_at {w1 : World} {g : Nat} {ao : Option Addr} {n c N : Nat} {f : Nat → Int} (ty : TypeId) (hn : n ≤ N) (hsrc : SrcOk w1 ao n f)
  (hblk : w1.heap[g]? = some (.cells (valsOf .u64 (fun _ => 0) N).toArray 90 (0, 0))) (hinf : (Tryz.prog.info? 90).map (·.size) = some 1) :
  ∃ w2, (Builtin.copy_ #[40, 40] ty #[.slice (some ⟨g, 0, none⟩) N N, .slice ao n c]).run Tryz.prog w1 = .ok (goInt n) w2 ∧ Cells w2 .u64 g 0 N (upto f n) ∧ Soft w2 g 0 N ∧ Below g w1 w2 := by
 have hb : Below g w1 w1 := Below.refl _ _
 by_cases h0 : n = 0
 ·subst h0
  refine ⟨w1, run_copy_none (P := Tryz.prog) w1 _ _ ty 90 _ _ _ _ _ _ Tryz.underlying40 hinf (Nat.zero_min _), ?_, ?_, hb⟩
  ·intro i hi
   rw [Nat.zero_add, cell_of_row w1 _ i _ _ _ hblk, List.getElem?_toArray, valsOf_at _ _ _ _ hi]; simp [upto]
  ·intro i _; rw [Nat.zero_add]; exact frozen_of_row w1 _ i _ _ hblk
 ·obtain ⟨ad, rfl, hcs⟩ := hsrc w1 (Below.refl _ _) (by rw [valsOf_length]; omega)
  have hrun := run_copy_row (P := Tryz.prog) w1 40 40 ty 90 g 0 N N ad n c _ 90 (valsOf .u64 f n) Tryz.underlying40 hinf hblk (by rw [valsOf_length]; exact (Nat.min_eq_left hn).symm) hcs (by rw [valsOf_length]; simp [valsOf_length]; omega) (vals_one _ _ _)
  rw [valsOf_length] at hrun
  refine ⟨_, hrun, ?_⟩
  have hblk2 := setRow_heap w1 g _ ((valsOf .u64 (fun _ => 0) N).toArray.toList.take 0 ++ valsOf .u64 f n ++ (valsOf .u64 (fun _ => 0) N).toArray.toList.drop (0 + n)).toArray 90 _ hblk
  have hs := splice_cells (w := w1.setRow g ((valsOf .u64 (fun _ => 0) N).toArray.toList.take 0 ++ valsOf .u64 f n ++ (valsOf .u64 (fun _ => 0) N).toArray.toList.drop (0 + n)).toArray) (f := f) (n := n) (N := N) (k := .u64) (e := 90) (by rw [hblk2]; simp [splice, valsOf_length])
  exact ⟨hs.1, hs.2, below_setRow hb (Nat.le_refl _) _⟩

set_option maxRecDepth 20000 in
set_option maxHeartbeats 4000000 in
theorem divLong_any (u v : Value) (x y m : Nat) (w : World) (hu : Rep w u x) (hv : Rep w v y) (hle : m + 2 ≤ nl W32 x) (hy : nl W32 y = m + 2) (hlx : nl W32 x ≤ 999999) :
  Calls Tryz.prog 169 #[u, v] w fun e w' => ∃ q r, e = .returned (.tuple #[q, r]) ∧ RepM w.heap.size w' q (x / y) ∧ RepM w.heap.size w' r (x % y) ∧ Below w.heap.size w w' := by
 obtain ⟨i0, hi, hz0, hz1, hz2⟩ := info_parts info_u64
 have hinf : (Tryz.prog.info? 90).map (·.size) = some 1 := by rw [hi]; simp [hz1]
 have HI := show Hid ((Tryz.prog.info? 90).map (·.size) = some 1) from hinf
 clear hinf
 obtain ⟨s, hs⟩ : ∃ s, s = 32 - Lib.bitLen (dg W32 y (m + 1)).toNat := ⟨_, rfl⟩
 obtain ⟨hs31, hbl, hnlD, htop⟩ := norm_num y m s hy hs
 have hxlt := lt_pow_nl W32 x (by decide)
 have HST := long_start x y s (nl W32 x) m hxlt hy hle
 have HX1 : x * 2 ^ s < W32 ^ (nl W32 x + 1) := by
  rw [Nat.pow_succ]
  have : 2 ^ s < W32 := Nat.lt_of_lt_of_le (Nat.pow_lt_pow_right (by omega) (show s < 32 by omega)) (by decide)
  exact Nat.mul_lt_mul_of_lt_of_lt hxlt this
 have hnlX := nl_le W32 (x * 2 ^ s) _ (by decide) HX1
 have hypos : 0 < y := by
  rcases Nat.eq_zero_or_pos y with e | e
  ·subst e; rw [nl_zero] at hy; omega
  ·exact e
 have hu0 := hu
 have hv0 := hv
 obtain ⟨ao, c, rfl, hl⟩ := rep_val hu0
 obtain ⟨bo, d, rfl, hbd, kl, k4⟩ := hv0
 obtain ⟨b2, o2, rfl, kc⟩ := k4 (by omega)
 have kcell := kc (m + 1) (by omega)
 have kbnd := dg_bounds W32 y (m + 1) (by decide)
 rw [W32c] at kbnd
 have hb2 := kc.lt (by omega)
 rw [hy] at kl hbd
 clear hu0 k4 kc hs
 have hlead : (32 - (Lib.bitLen (dg W32 y (m + 1)).toNat : Int)) = (s : Int) := by rw [hbl]; omega
 have hlX1 : nl W32 x ≤ 1000000 := by omega
 have hlY1 : nl W32 y ≤ 1000000 := by omega
 have UX := u32_dg (x * 2 ^ s) (nl W32 (x * 2 ^ s))
 have VX := val_nl W32 (x * 2 ^ s) (by decide)
 generalize hla : nl W32 x = la at *
 generalize dg W32 y (m + 1) = t at *
 have hwt : IntKind.u32.wrap t = t := by rw [IntKind.wrap_u32]; omega
 have i1 : ((m : Int) + 2 - 1) = (m : Int) + 1 := by omega
 rw [hy] at hv ⊢
 go_enter Tryz.func169, Tryz.ntmps169
 go_wp2_with (go_at_call 163; refine (lead32_any t _ kbnd.1 (by omega)).mono ?_; rintro e w' ⟨rfl, hw'⟩; have hw2 := hw'.symm; subst hw2; rw [hlead])
 go_wp2_with fail
 refine (shiftUp_any _ y s _ hv hlY1 (by omega)).mono ?_
 rintro e w1 ⟨by_, rfl, hby, hb1⟩
 have s1 := hb1.size
 unfold RepM at hby
 rw [hnlD] at hby
 obtain ⟨bbo, cb, rfl, hcb, _, hby4⟩ := hby
 obtain ⟨gb, ob, rfl, hcD, _, hgB⟩ := hby4 (by omega)
 have hgb1 := hcD.lt (by omega)
 clear hby4
 go_wp2_with (at_make; refine wpList_make_full _ rfl _ _ 40 rfl _ 90 i0 (.int .u64 0) 1 Tryz.underlying40 hi hz0 hz1 _ _ _ _ (la + 1) rfl rfl (by omega) (by omega) (by rw [hz2]; omega) (by unfold maxLen; omega) (Nat.le_refl _) ?_; intro w2 hown hgrow)
 have hblk := made_block hown
 have hb2' := below_grown hgrow
 have s2 := hb2'.size
 have s2' : w1.heap.size < w2.heap.size := by
  have := World.block_lt_of_cell? _ _ ((mine_made (k := .u64) (w := w1) hown (fun _ => 0) (fun i hi => made_zero .u64 (la + 1) i hi)).1 0 (by omega))
  exact this
 clear hown hgrow
 go_wp2_with fail
 refine (shiftUp_any _ x s _ (Nums.below hu (hb1.trans (hb2'.mono s1))) (by rw [hla]; exact hlX1) (by omega)).mono ?_
 rintro e w3 ⟨ra, rfl, hra, hb3⟩
 have s3 := hb3.size
 obtain ⟨ra_o, ra_c, rfl, hrac, hral, hra4⟩ := hra
 have C2 : SrcOk w3 ra_o (nl W32 (x * 2 ^ s)) (dg W32 (x * 2 ^ s)) := srcOk ⟨_, _, rfl, hrac, hral, fun h => let ⟨b, o, e, hc, _⟩ := hra4 h; ⟨b, o, e, hc⟩⟩
 have hblk3 : w3.heap[w1.heap.size]? = _ := (hb3.block _ s2').trans hblk
 clear hra4 hblk
 go_wp2
 obtain ⟨w4, hrun, hc4, hs4, hb4⟩ := copy_at (c := ra_c) 3 hnlX C2 hblk3 HI.out
 rw [hrun]
 clear hrun hblk3
 have s4 := hb4.size
 have hU4 : U32 (la + 1) (upto (dg W32 (x * 2 ^ s)) (nl W32 (x * 2 ^ s))) := fun i _ => by
  unfold upto; split
  ·exact UX i (by assumption)
  ·exact ⟨Int.le_refl _, by decide⟩
 have hcD4 : Cells w4 .u64 gb ob (m + 2) (dg W32 (y * 2 ^ s)) := ((hcD.below hb2' hgb1).below hb3 (by omega)).below hb4 hgb1
 have bel4 : Below w.heap.size w w4 := hb1.trans ((hb2'.mono s1).trans ((hb3.mono (by omega)).trans (hb4.mono s1)))
 clear hb2' hb3 hb4 C2 hcD
 have dF : ∀ j, j < la + 1 → upto (dg W32 (x * 2 ^ s)) (nl W32 (x * 2 ^ s)) j = dg W32 (x * 2 ^ s) j := by
  intro j _
  unfold upto; split
  ·rfl
  ·rw [dg_high]
   exact Nat.lt_of_lt_of_le (lt_pow_nl W32 _ (by decide)) (Nat.pow_le_pow_right (by decide) (by omega))
 obtain ⟨N, hN⟩ : ∃ N, N + (m + 1) = la := ⟨la - (m + 1), by omega⟩
 rw [show la - (m + 2) + 1 = N by omega] at HST
 have hc4' : Cells w4 .u64 w1.heap.size 0 (la + 1) (dg W32 (x * 2 ^ s)) := hc4.congr dF
 have hin : (la : Int) - ((m : Int) + 2) + 1 = (N : Int) := by omega
 clear hc4 dF hU4 UX
 go_wp2_with (at_make; refine wpList_make_full _ rfl _ _ 40 rfl _ 90 i0 (.int .u64 0) 1 Tryz.underlying40 hi hz0 hz1 _ _ _ _ N rfl rfl (by omega) (by omega) (by rw [hz2]; omega) (by unfold maxLen; omega) (Nat.le_refl _) ?_; intro w5 hown hgrow)
 have hb5 := below_grown hgrow
 have s5 := hb5.size
 obtain ⟨hc5, hs5⟩ := mine_made (k := .u64) (w := w4) hown (fun _ => 0) (fun i hi => made_zero .u64 N i hi)
 clear hown hgrow
 have hR4 := hc4'.lt (by omega)
 have hc4r := hc4'.below hb5 hR4
 have hs4r := hs4.below hb5 hR4
 have hcD5 := hcD4.below hb5 (by omega)
 have bel5 : Below w.heap.size w w5 := bel4.trans (hb5.mono bel4.size)
 have hwR : w.heap.size ≤ w1.heap.size := s1
 have hwQ : w.heap.size ≤ w4.heap.size := bel4.size
 clear hcD4 hc4' hs4 bel4 hb5 s5 s1 s2 s2' s3 s4 hb1 kcell
 have UD := u32_dg (y * 2 ^ s) (m + 2)
 have VD : Hid (val W32 (dg W32 (y * 2 ^ s)) (m + 2) = ((y * 2 ^ s : Nat) : Int)) := by show _ = _; rw [← hnlD]; exact val_nl W32 _ (by decide)
 have DP : (0 : Int) < ((y * 2 ^ s : Nat) : Int) := by
  have : 0 < y * 2 ^ s := Nat.mul_pos hypos (Nat.two_pow_pos s)
  omega
 have hx0 : Hid (((x * 2 ^ s : Nat) : Int) = val W32 (dg W32 (x * 2 ^ s)) (N + (m + 2)) + ((y * 2 ^ s : Nat) : Int) * val W32 (fun _ => 0) N) := by
  show _ = _
  rw [val_zero N (fun _ _ => rfl), Int.mul_zero, Int.add_zero, val_dg, Nat.mod_eq_of_lt]
  rw [show N + (m + 2) = la + 1 by omega]; exact HX1
 have hx1 : Hid (val W32 (fun j => dg W32 (x * 2 ^ s) (N + j)) (m + 2) < ((y * 2 ^ s : Nat) : Int)) := by
  show _ < _
  rw [val_from]
  have := Nat.mod_le (x * 2 ^ s / W32 ^ N) (W32 ^ (m + 2))
  omega
 have UXX := u32_dg (x * 2 ^ s) (la + 1)
 have HXE : Hid (x * 2 ^ s / (y * 2 ^ s) = x / y) := Nat.mul_div_mul_right _ _ (Nat.two_pow_pos s)
 have HXM : Hid (x * 2 ^ s % (y * 2 ^ s) = x % y * 2 ^ s) := Nat.mul_mod_mul_right _ _ _
 clear HST HX1 VX hnlX
 generalize w1.heap.size = gR at *
 generalize w4.heap.size = gQ at *
 generalize hXX : x * 2 ^ s = X at *
 generalize hDD : y * 2 ^ s = D at *
 go_loopw [10] (fun vi wr => ∃ (k : Nat) (h g : Nat → Int), k ≤ N ∧ vi = .int .i64 ((k : Int) - 1) ∧ Cells wr .u64 gR 0 (la + 1) h ∧ Soft wr gR 0 (la + 1) ∧ U32 (la + 1) h ∧ Cells wr .u64 gQ 0 N g ∧ Soft wr gQ 0 N ∧ U32 N g ∧ (∀ j, j < k → g j = 0) ∧
   (X : Int) = val W32 h (k + (m + 2)) + (D : Int) * val W32 g N ∧ val W32 (fun j => h (k + j)) (m + 2) < (D : Int) ∧ Below w.heap.size w wr ∧ Cells wr .u64 gb ob (m + 2) (dg W32 D)) (fun vi _ => (intOf vi + 1).toNat)
 case atStart => exact ⟨N, dg W32 X, fun _ => 0, Nat.le_refl _, rfl, hc4r, hs4r, UXX, hc5, hs5, fun _ _ => ⟨Int.le_refl _, (by decide : (0 : Int) < (W32 : Int))⟩, fun _ _ => rfl, hx0.out, hx1.out, bel5, hcD5⟩
 case round =>
  clear hc4r hs4r UXX hc5 hs5 hx0 hx1 bel5 hcD5
  obtain ⟨k, h, g, hk, rfl, hch, hsh, huh, hcg, hsg, hug, hgz, hX, hlt, hbel, hcD⟩ := hrel
  have HX : Hid ((X : Int) = val W32 h (k + (m + 2)) + (D : Int) * val W32 g N) := hX
  have HL : Hid (val W32 (fun j => h (k + j)) (m + 2) < (D : Int)) := hlt
  have HGZ : Hid (∀ j, j < k → g j = 0) := hgz
  clear hX hlt hgz
  cases k with
  | zero =>
   have hXD : ((X : Int) = val W32 g N * (D : Int) + val W32 h (m + 2)) := by
    have := HX.out; rw [Nat.zero_add, Int.mul_comm] at this; omega
   have hL0 : val W32 h (m + 2) < (D : Int) := by
    have := HL.out; simpa using this
   have hb0 := (val_bounds W32 h (m + 2) (fun i hi => huh i (by omega))).1
   obtain ⟨q1, q2⟩ := quo_rem X D _ _ (by omega) hb0 hL0 hXD
   rw [HXE.out] at q1
   rw [HXM.out] at q2
   have Q1 : Hid (val W32 g N = ((x / y : Nat) : Int)) := q1
   have Q2 : Hid (val W32 h (m + 2) = ((x % y * 2 ^ s : Nat) : Int)) := q2
   have hMQ : Mine .u64 w.heap.size wr (.slice (some ⟨gQ, 0, none⟩) N N) N g := ⟨_, _, rfl, Nat.le_refl _, by unfold LIM; omega, fun _ => ⟨_, _, rfl, hcg, hsg, hwQ⟩⟩
   have hMR : Mine .u64 w.heap.size wr (.slice (some ⟨gR, 0, none⟩) (m + 2) (la + 1)) (m + 2) h := ⟨_, _, rfl, by omega, by unfold LIM; omega, fun _ => ⟨_, _, rfl, hch.mono (by omega), hsh.mono (by omega), hwR⟩⟩
   have hUR : ∀ i, i < m + 2 → 0 ≤ h i ∧ h i < (W32 : Int) := fun i hi => huh i (by omega)
   have HDX : Hid (x % y * 2 ^ s / 2 ^ s = x % y) := Nat.mul_div_cancel _ (Nat.two_pow_pos s)
   have hnr : nl W32 (x % y * 2 ^ s) ≤ 1000000 := by
    have h1 : val W32 h (m + 2) < (W32 : Int) ^ (m + 2) := (val_bounds W32 h (m + 2) hUR).2
    have h2 := nl_le W32 (x % y * 2 ^ s) (m + 2) (by decide) (by
     have e : ((W32 ^ (m + 2) : Nat) : Int) = (W32 : Int) ^ (m + 2) := by simp
     rw [Q2.out, ← e] at h1; omega)
    omega
   have hML : m + 2 ≤ la + 1 := by omega
   have hms : (s : Nat) ≤ 9223372036854775807 := by omega
   clear hXD hL0 hb0 q1 q2 HX HL HGZ hch hsh huh hcD hlead hwt hin i1 htop hbl kbnd hle hN UD VD hnlD hy hbd kl
   generalize m + 2 = M at *
   generalize la + 1 = L at *
   generalize (m : Int) + 2 = mi at *
   generalize (la : Int) + 1 = li at *
   have iN : (0 : Int) ≤ (M : Int) := by omega
   have iL : (M : Int) ≤ (L : Int) := by omega
   go_wp2
   go_region_held3 (fun _ => True) (trivial) (first
    | (go_at_call_of 168 gQ; refine (cut_mine w.heap.size (.slice (some ⟨gQ, 0, none⟩) N N) N g _ (x / y) (by exact hMQ) (by exact hug) Q1.out).mono ?_; rintro e wq ⟨q, rfl, hq, rfl⟩)
    | (go_at_call_of 168 gR; refine (cut_mine w.heap.size (.slice (some ⟨gR, 0, none⟩) M L) M h _ _ (by exact hMR) hUR Q2.out).mono ?_; rintro e wq ⟨r, rfl, hr, rfl⟩)
    | (go_at_call 198; refine (shiftDown_any _ _ s _ (by exact hr.rep) hnr hms).mono ?_; rintro e w9 ⟨r2, rfl, hr2, hb9⟩))
   go_wp2
   go_ret2
   rw [HDX.out] at hr2
   have hsw := hbel.size
   have hb9' : Below wr.heap.size wr w9 := ⟨hb9.os, hb9.tape, hb9.output, hb9.size, hb9.block⟩
   have hr2' : RepM wr.heap.size w9 r2 (x % y) := hr2
   have hq' : RepM w.heap.size wr q (x / y) := hq
   exact ⟨_, _, rfl, Mine.below hq' hb9', Mine.le hr2' hsw, hbel.trans (hb9'.mono hsw)⟩
  | succ i =>
   have e1 : (((i + 1 : Nat) : Int) - 1) = (i : Int) := by omega
   rw [e1]
   have e2 : (i : Int) + ((m : Int) + 2) + 1 = (i : Int) + (m : Int) + 3 := by omega
   have hRg : gR < wr.heap.size := hch.lt (by omega)
   have hQg : gQ < wr.heap.size := hcg.lt (by omega)
   have hsub := hch.from i (m + 3) (by omega)
   have hsos := hsh.from i (m + 3) (by omega)
   rw [Nat.zero_add] at hsub hsos
   have hfit : val W32 (fun j => h (i + j)) (m + 3) < val W32 (dg W32 D) (m + 2) * 4294967296 := by
    rw [VD.out]
    exact long_fit W32 D h i (m + 2) (huh i (by omega)).2 (by decide) HL.out
   have hUs : U32 (m + 3) (fun j => h (i + j)) := fun j hj => huh (i + j) (by omega)
   go_wp2_with fail
   rw [show i + m + 3 - i = m + 3 by omega]
   refine (divStep_any gR i (la + 1 - i) gb ob cb m (fun j => h (i + j)) (dg W32 D) wr (by omega) (by omega) hsub hsos hcD hcb (by omega) hUs UD htop hfit).mono ?_
   rintro e w6 ⟨rfl, h2, hc6, hu6, hv6, hup6⟩
   rw [VD.out] at hv6 ⊢
   have hst := long_step W32 X D h h2 g i (m + 2) N (by omega) (HGZ.out i (by omega)) HX.out hv6
   have hR0 : 0 ≤ val W32 (fun j => h (i + j)) (m + 3) := (val_bounds W32 _ (m + 3) hUs).1
   have hq0 : 0 ≤ val W32 (fun j => h (i + j)) (m + 3) / (D : Int) := Int.ediv_nonneg hR0 (Int.le_of_lt DP)
   have hq1 : val W32 (fun j => h (i + j)) (m + 3) / (D : Int) < (W32 : Int) := by
    rw [VD.out] at hfit
    exact Int.ediv_lt_of_lt_mul DP (by rw [Int.mul_comm]; exact hfit)
   have hrl : val W32 h2 (m + 2) < (D : Int) := by rw [hv6]; exact Int.emod_lt_of_pos _ DP
   have HST : Hid ((X : Int) = val W32 (lay h h2 i (m + 2)) (i + (m + 2)) + (D : Int) * val W32 (put g i (val W32 (fun j => h (i + j)) (m + 3) / (D : Int))) N) := hst
   have HRL : Hid (val W32 h2 (m + 2) < (D : Int)) := hrl
   have hchL : Cells w6 .u64 gR 0 (la + 1) (lay h h2 i (m + 2)) := by
    intro j hj
    unfold lay
    by_cases hin : i ≤ j ∧ j < i + (m + 2)
    ·rw [if_pos hin]
     have := hc6 (j - i) (by omega)
     rw [show i + (j - i) = j by omega] at this
     rw [Nat.zero_add]; exact this
    ·rw [if_neg hin, hup6.cell _ (by omega)]; exact hch j hj
   have hshL := hsh.upd hRg hup6
   have hcg6 := hcg.upd hup6 (.inl (by omega))
   have hsg6 := hsg.upd hQg hup6
   have hcD6 := hcD.upd hup6 (.inl (by omega))
   have huL : U32 (la + 1) (lay h h2 i (m + 2)) := by
    intro j hj
    unfold lay
    split
    ·exact hu6 _ (by omega)
    ·exact huh j hj
   have hbel6 : Below w.heap.size w w6 := hbel.trans (hup6.below hwR hbel.size)
   have hfr := hsg6 i (by omega)
   have hce := hcg6 i (by omega)
   rw [Nat.zero_add] at hfr hce
   generalize val W32 (fun j => h (i + j)) (m + 3) / (D : Int) = qd at *
   clear hst hv6 hrl hfit hup6 hsub hsos HX HL hR0
   go_wp2
   go_roundw
   case rel =>
    have hset := hcg6.set i (by omega) qd
    rw [Nat.zero_add] at hset
    refine ⟨i, lay h h2 i (m + 2), put g i qd, by omega, by go_num, ?_, hshL.set _ _, huL, hset, hsg6.set _ _, put_bounds hug hq0 hq1, ?_, HST.out, ?_, hbel6.setCell (by simp; omega) _, ?_⟩
    ·intro j hj; rw [World.cell?_setCell_other _ _ _ _ (fun e => by injection e; omega)]; exact hchL j hj
    ·intro j hj; rw [put_other _ _ _ _ (by omega)]; exact HGZ.out j (by omega)
    ·rw [val_congr (m + 2) (fun j hj => lay_in h h2 i (m + 2) j hj)]; exact HRL.out
    ·intro j hj; rw [World.cell?_setCell_other _ _ _ _ (fun e => by injection e; omega)]; exact hcD6 j hj
   case measure => simp [intOf]

set_option maxRecDepth 20000 in
set_option maxHeartbeats 400000 in
/-- nat.cut of limbs below 2^32, whosever. -/
theorem cut_nums (v : Value) (n : Nat) (f : Nat → Int) (w : World) (m : Nat) (h : Nums .u64 w v n f) (hf : ∀ i, i < n → 0 ≤ f i ∧ f i < (W32 : Int)) (hm : val W32 f n = (m : Int)) :
  Calls Tryz.prog 168 #[v] w fun e w' => ∃ v', e = .returned v' ∧ Rep w' v' m ∧ w' = w := by
 have hs : sz (lo f) n = nl W32 m := by
  rw [num_sz, num_of f n m hf hm]
 have hfu : U64 n f := fun i hi => by have := hf i hi; unfold W32 at this; omega
 have hle := sz_le (lo f) n
 rw [hs] at hle
 have hN := h
 obtain ⟨ao, c, rfl, hnc, hl, h4⟩ := h
 unfold LIM at hl
 by_cases hz : nl W32 m = 0
 ·go_enter Tryz.func168, Tryz.ntmps168
  go_wp2_with (go_at_call 123; refine (size_any _ _ _ _ hN hfu).mono ?_; rintro e w' ⟨rfl, rfl⟩; rw [hs, hz])
  go_ret
  refine ⟨_, rfl, ?_, rfl⟩
  unfold Rep; rw [hz]; exact Nums.nil _ _ _
 ·obtain ⟨b, off, rfl, hc⟩ := h4 (by omega)
  have hne : ((nl W32 m : Int) == 0) = false := by simp; omega
  go_enter Tryz.func168, Tryz.ntmps168
  go_wp2_with (go_at_call 123; refine (size_any _ _ _ _ hN hfu).mono ?_; rintro e w' ⟨rfl, rfl⟩; rw [hs])
  go_ret
  refine ⟨_, rfl, ?_, rfl⟩
  exact ⟨_, _, rfl, by omega, by unfold LIM; omega, fun _ => ⟨_, _, rfl, (hc.mono hle).congr (fun i hi => val_digit W32 f n m hf hm i (by omega))⟩⟩

/-- What nat.product is to answer of x and y. -/
def ProdAt (x y : Nat) : Prop := ∀ (u v : Value) (w : World), Rep w u x → Rep w v y →
  Calls Tryz.prog 151 #[u, v] w fun e w' => ∃ r, e = .returned r ∧ RepM w.heap.size w' r (x * y) ∧ Below w.heap.size w w'

/-- A number in new memory lies in none of the old blocks. -/
theorem repM_ne {B : Nat} {w : World} {v : Value} {m g : Nat} (h : RepM B w v m) (hg : g < B) : 0 < nl W32 m → ∀ b o c, v = .slice (some ⟨b, o, none⟩) (nl W32 m) c → b ≠ g := by
 intro hp b o c he
 obtain ⟨ao, c', rfl, _, _, h4⟩ := h
 obtain ⟨b', o', rfl, _, _, hB⟩ := h4 hp
 cases he
 omega

/-- The limbs of a row with others laid from i on, to its end. -/
def layEnd (h h2 : Nat → Int) (i : Nat) : Nat → Int := fun j => if i ≤ j then h2 (j - i) else h j
theorem val_layEnd (B : Nat) (h h2 : Nat → Int) (i n : Nat) : val B (layEnd h h2 i) (i + n) = val B h i + val B h2 n * (B : Int) ^ i := by
 rw [val_add, val_congr i (g := h) (fun j hj => by unfold layEnd; rw [if_neg (by omega)]), val_congr n (g := h2) (fun j _ => by unfold layEnd; rw [if_pos (by omega), Nat.add_sub_cancel_left])]

/-- Adding a number to a row's limbs from i on: what it makes of the row, and that it fits. -/
theorem add_from (h h2 : Nat → Int) (N i : Nat) (S z T : Nat) (hi : i ≤ N) (hu : ∀ j, j < N → 0 ≤ h j ∧ h j < (W32 : Int)) (hS : val W32 h N = (S : Int)) (hT : S + z * W32 ^ i = T) (hTN : T < W32 ^ N) :
  val W32 (fun j => h (i + j)) (N - i) + (z : Int) < (W32 : Int) ^ (N - i) ∧ (val W32 h2 (N - i) = val W32 (fun j => h (i + j)) (N - i) + (z : Int) → val W32 (layEnd h h2 i) N = (T : Int)) := by
 have e0 : N = i + (N - i) := by omega
 have e1 := val_add W32 h i (N - i)
 rw [← e0, hS] at e1
 have hp := powB_pos W32 (by decide) i
 have hlow := (val_bounds W32 h i (fun j hj => hu j (by omega))).1
 have eT : (T : Int) = (S : Int) + (z : Int) * (W32 : Int) ^ i := by rw [← hT]; simp
 have eP : (W32 : Int) ^ N = (W32 : Int) ^ i * (W32 : Int) ^ (N - i) := by rw [← Int.pow_add, ← e0]
 have hTN' : (T : Int) < (W32 : Int) ^ N := by
  have e : ((W32 ^ N : Nat) : Int) = (W32 : Int) ^ N := by simp
  omega
 constructor
 ·by_cases g : val W32 (fun j => h (i + j)) (N - i) + (z : Int) < (W32 : Int) ^ (N - i)
  ·exact g
  ·exfalso
   have h1 : (W32 : Int) ^ (N - i) * (W32 : Int) ^ i ≤ (val W32 (fun j => h (i + j)) (N - i) + (z : Int)) * (W32 : Int) ^ i := Int.mul_le_mul_of_nonneg_right (by omega) (Int.le_of_lt hp)
   rw [Int.add_mul, Int.mul_comm ((W32 : Int) ^ (N - i))] at h1
   omega
 ·intro h3
  have e2 := val_layEnd W32 h h2 i (N - i)
  rw [← e0, h3, Int.add_mul] at e2
  omega

theorem cells_layEnd {w w' : World} {g N i : Nat} {h h2 : Nat → Int} (hc : Cells w .u64 g 0 N h) (hc2 : Cells w' .u64 g i (N - i) h2) (hu : Upd w w' g i (N - i)) : Cells w' .u64 g 0 N (layEnd h h2 i) := by
 intro j hj
 unfold layEnd
 by_cases e : i ≤ j
 ·rw [if_pos e]
  have := hc2 (j - i) (by omega)
  rw [show i + (j - i) = j by omega] at this
  rw [Nat.zero_add]; exact this
 ·rw [if_neg e, hu.cell _ (by omega)]; exact hc j hj
theorem u32_layEnd {N i : Nat} {h h2 : Nat → Int} (hu : U32 N h) (hu2 : U32 (N - i) h2) : U32 N (layEnd h h2 i) := by
 intro j hj
 unfold layEnd
 split
 ·exact hu2 _ (by omega)
 ·exact hu j hj

/-- A piece of a number's limbs. -/
theorem piece_num (x P E : Nat) (h : P ≤ E) : x % W32 ^ P + (x / W32 ^ P % W32 ^ (E - P)) * W32 ^ P = x % W32 ^ E := by
 have e : W32 ^ E = W32 ^ P * W32 ^ (E - P) := by rw [← Nat.pow_add]; congr 1; omega
 rw [e, Nat.mod_mul, Nat.mul_comm]

set_option maxRecDepth 20000 in
set_option maxHeartbeats 4000000 in
theorem pieces_any (g N ba oa la ca bb ob lb cb x y : Nat) (w : World) (hN : N = la + lb) (hlb : 0 < lb) (hl : la ≤ 400000) (hlb2 : lb ≤ la) (hca : la ≤ ca)
  (hout : Cells w .u64 g 0 N (fun _ => 0)) (hs : Soft w g 0 N) (ha : Cells w .u64 ba oa la (dg W32 x)) (hb : Rep w (.slice (some ⟨bb, ob, none⟩) lb cb) y)
  (hga : ba ≠ g) (hx : x < W32 ^ la) (hy : y < W32 ^ lb) (hgb : bb ≠ g) (IH : ∀ p, nl W32 p ≤ lb → ProdAt p y) :
  Calls Tryz.prog 188 #[.slice (some ⟨g, 0, none⟩) N N, .slice (some ⟨ba, oa, none⟩) la ca, .slice (some ⟨bb, ob, none⟩) lb cb] w fun e w' =>
   e = .returned (.tuple #[]) ∧ ∃ h, Cells w' .u64 g 0 N h ∧ U32 N h ∧ val W32 h N = ((x * y : Nat) : Int) ∧ Upd w w' g 0 N := by
 have HX : Hid (x < W32 ^ la) := hx
 have HY : Hid (y < W32 ^ lb) := hy
 have hglt := hout.lt (show 0 < N by omega)
 clear hx hy
 go_enter Tryz.func188, Tryz.ntmps188
 go_wp2
 go_loopw [6] (fun vi wr => ∃ (P : Nat) (h : Nat → Int), P < la + lb ∧ vi = .int .i64 (P : Int) ∧ Cells wr .u64 g 0 N h ∧ U32 N h ∧ val W32 h N = ((x % W32 ^ P * y : Nat) : Int) ∧ Upd w wr g 0 N) (fun vi _ => la + lb - (intOf vi).toNat)
 case atStart => exact ⟨0, fun _ => 0, by omega, rfl, hout, fun _ _ => ⟨Int.le_refl _, (by decide : (0 : Int) < (W32 : Int))⟩, by rw [val_zero N (fun _ _ => rfl)]; simp [Nat.mod_one], Upd.refl _ _ _ _⟩
 case round =>
  obtain ⟨P, h, hP, rfl, hch, huh, hv, hupd⟩ := hrel
  by_cases hlt : P < la
  ·obtain ⟨E, hE⟩ : ∃ E, E = min (P + lb) la := ⟨_, rfl⟩
   have hE1 : P < E := by omega
   have hE2 : E ≤ la := by omega
   have hE3 : E ≤ P + lb := by omega
   have hE4 : E = P + lb ∨ E = la := by omega
   have hEi : min ((P : Int) + (lb : Int)) (la : Int) = (E : Int) := by omega
   clear hE
   go_wp2
   clear hEi
   -- the piece
   have hpA : Cells wr .u64 ba (oa + P) (E - P) (fun j => dg W32 x (P + j)) := (ha.upd hupd (.inl hga)).from P (E - P) (by omega)
   have hpV := val_from W32 x P (E - P)
   have hpU : ∀ i, i < E - P → 0 ≤ dg W32 x (P + i) ∧ dg W32 x (P + i) < (W32 : Int) := fun i _ => dg_bounds W32 x (P + i) (by decide)
   have hpc := piece_num x P E (by omega)
   have hznl : nl W32 (x / W32 ^ P % W32 ^ (E - P)) ≤ lb := Nat.le_trans (nl_le W32 _ (E - P) (by decide) (Nat.mod_lt _ (Nat.pow_pos (by decide)))) (by omega)
   generalize x / W32 ^ P % W32 ^ (E - P) = z at *
   have hT : x % W32 ^ P * y + z * y * W32 ^ P = x % W32 ^ E * y := by rw [← hpc, Nat.add_mul, Nat.mul_right_comm]
   have hTN : x % W32 ^ E * y < W32 ^ N := by
    rw [hN, Nat.pow_add]
    exact Nat.mul_lt_mul_of_lt_of_lt (Nat.lt_of_le_of_lt (Nat.mod_le _ _) HX.out) HY.out
   have hEx : x % W32 ^ E = x % W32 ^ (P + lb) := by
    rcases hE4 with e | e
    ·rw [e]
    ·rw [e, Nat.mod_eq_of_lt HX.out, Nat.mod_eq_of_lt (Nat.lt_of_lt_of_le HX.out (Nat.pow_le_pow_right (by decide) (by omega)))]
   have HEX : Hid (x % W32 ^ E * y = x % W32 ^ (P + lb) * y) := by show _ = _; rw [hEx]
   have hAF := fun h2 => add_from h h2 N P (x % W32 ^ P * y) (z * y) (x % W32 ^ E * y) (by omega) huh hv hT hTN
   have HAF : Hid (∀ h2 : Nat → Int, val W32 (fun j => h (P + j)) (N - P) + ((z * y : Nat) : Int) < (W32 : Int) ^ (N - P) ∧ (val W32 h2 (N - P) = val W32 (fun j => h (P + j)) (N - P) + ((z * y : Nat) : Int) → val W32 (layEnd h h2 P) N = ((x % W32 ^ E * y : Nat) : Int))) := hAF
   have hznl2 : nl W32 (z * y) ≤ N - P := by
    refine nl_le W32 _ _ (by decide) ?_
    have h1 := (HAF.out (fun _ => 0)).1
    have h2 := (val_bounds W32 (fun j => h (P + j)) (N - P) (fun j hj => huh (P + j) (by omega))).1
    have e : ((W32 ^ (N - P) : Nat) : Int) = (W32 : Int) ^ (N - P) := by simp
    omega
   have hbR : Rep wr (.slice (some ⟨bb, ob, none⟩) lb cb) y := by
    refine Nums.upd hb hupd (fun b' o' c' he _ => ?_)
    injection he with he1; injection he1 with he2; injection he2 with he3; omega
   have hrow : Cells wr .u64 g P (N - P) (fun j => h (P + j)) := by
    have := hch.from P (N - P) (by omega); rw [Nat.zero_add] at this; exact this
   have hsrow : Soft wr g P (N - P) := by
    have := (hs.upd hglt hupd).from P (N - P) (by omega); rw [Nat.zero_add] at this; exact this
   have hurow : U32 (N - P) (fun j => h (P + j)) := fun j hj => huh (P + j) (by omega)
   have hgw : g < wr.heap.size := hch.lt (by omega)
   have hpN : Nums .u64 wr (.slice (some ⟨ba, oa + P, none⟩) (E - P) (ca - P)) (E - P) (fun j => dg W32 x (P + j)) := ⟨_, _, rfl, by omega, by unfold LIM; omega, fun _ => ⟨_, _, rfl, hpA⟩⟩
   have hlim : N - P ≤ LIM := by unfold LIM; omega
   have hVz : Hid (val W32 (dg W32 (z * y)) (nl W32 (z * y)) = ((z * y : Nat) : Int)) := val_nl W32 _ (by decide)
   have hpV' : Hid (val W32 (fun j => dg W32 x (P + j)) (E - P) = (z : Int)) := hpV
   have hIH := IH z hznl
   have HIH : Hid (ProdAt z y) := hIH
   have i1 : (0 : Int) ≤ (P : Int) := by omega
   have i2 : (P : Int) ≤ (E : Int) := by omega
   have i3 : (E : Int) ≤ (la : Int) := by omega
   have i4 : (P : Int) ≤ (N : Int) := by omega
   have i5 : (E : Int) ≤ (ca : Int) := by omega
   have n1 : ¬ N = P := by omega
   have n2 : ¬ ca = P := by omega
   have n3 : P ≤ N := by omega
   have n4 : P ≤ E := by omega
   have n5 : E ≤ ca := by omega
   have n6 : E ≤ la := by omega
   have HNN : Hid (P + lb < la + lb) := by show _ < _; omega
   clear hpV hAF hT hTN hpc hIH hv hEx hznl hN
   go_region_held3 (fun _ => True) (trivial) (first
    | (go_at_call 168; refine (cut_nums (.slice (some ⟨ba, oa + P, none⟩) (E - P) (ca - P)) (E - P) _ _ z (by exact hpN) hpU hpV'.out).mono ?_; rintro e wc ⟨vc, rfl, hvc, rfl⟩)
    | (go_at_call 151; refine (Hid.out HIH _ _ _ (by exact hvc) (by exact hbR)).mono ?_; rintro e wp ⟨vp, rfl, hvp0, hbp0⟩; have hvp : RepM wr.heap.size wp vp (z * y) := hvp0; have hbp : Below wr.heap.size wr wp := ⟨hbp0.os, hbp0.tape, hbp0.output, hbp0.size, hbp0.block⟩)
    | (go_at_call 204; refine (addInto_any g P (N - P) (N - P) vp (nl W32 (z * y)) (fun j => h (P + j)) (dg W32 (z * y)) _ hlim hznl2 (hrow.below hbp hgw) (hsrow.below hbp hgw) hurow hvp.rep (u32_dg _ _) (repM_ne hvp hgw) (by rw [hVz.out]; exact (HAF.out (fun _ => 0)).1)).mono ?_; rintro e wa ⟨rfl, h2, hc2, hu2, hv2, hup2⟩))
   go_wp2
   go_roundw
   case rel =>
    rw [hVz.out] at hv2
    have hup : Upd wr wa g P (N - P) := (Upd.of_below hbp hgw).trans hup2
    refine ⟨P + lb, layEnd h h2 P, HNN.out, by go_num, cells_layEnd hch hc2 hup, u32_layEnd huh hu2, ?_, hupd.trans (hup.mono (by omega) (by omega))⟩
    rw [(HAF.out h2).2 hv2, HEX.out]
   case measure => simp [intOf]; omega
  ·go_wp2
   go_end0
   have e : x % W32 ^ P = x := Nat.mod_eq_of_lt (Nat.lt_of_lt_of_le HX.out (Nat.pow_le_pow_right (by decide) (by omega)))
   rw [e] at hv
   exact ⟨rfl, h, hch, huh, hv, hupd⟩

theorem repM_lt {B : Nat} {w : World} {v : Value} {m : Nat} (h : RepM B w v m) : 0 < nl W32 m → ∀ b o c, v = .slice (some ⟨b, o, none⟩) (nl W32 m) c → b < w.heap.size := by
 intro hp b o c he
 obtain ⟨ao, c', rfl, _, _, h4⟩ := h
 obtain ⟨b', o', rfl, hc, _, _⟩ := h4 hp
 cases he
 exact hc.lt hp

theorem nl_hi (x l H : Nat) (hl : nl W32 x = l) (hH : H ≤ l) : nl W32 (x / W32 ^ H) = l - H := by
 have hlt := lt_pow_nl W32 x (by decide)
 rw [hl] at hlt
 have hp : 0 < W32 ^ H := Nat.pow_pos (by decide)
 have h1 : x / W32 ^ H < W32 ^ (l - H) := by
  refine Nat.div_lt_of_lt_mul ?_
  rw [← Nat.pow_add, show H + (l - H) = l by omega]; exact hlt
 have h2 := nl_le W32 _ _ (by decide) h1
 by_cases e : l = H
 ·omega
 ·have h3 := pow_le_of_nl W32 x (by omega)
  rw [hl] at h3
  have h4 : W32 ^ (l - 1 - H) ≤ x / W32 ^ H := by
   refine (Nat.le_div_iff_mul_le hp).2 ?_
   rw [← Nat.pow_add, show l - 1 - H + H = l - 1 by omega]; exact h3
  have h5 := lt_pow_nl W32 (x / W32 ^ H) (by decide)
  by_cases g : nl W32 (x / W32 ^ H) ≤ l - 1 - H
  ·have h6 : W32 ^ nl W32 (x / W32 ^ H) ≤ W32 ^ (l - 1 - H) := Nat.pow_le_pow_right (by decide) g
   omega
  ·omega

theorem rep_hi {w : World} {b o l c x H : Nat} (hc : Cells w .u64 b o l (dg W32 x)) (hl : nl W32 x = l) (hH : H ≤ l) (hcc : l ≤ c) (hlim : l ≤ LIM) : Rep w (.slice (some ⟨b, o + H, none⟩) (l - H) (c - H)) (x / W32 ^ H) := by
 unfold Rep
 rw [nl_hi x l H hl hH]
 refine ⟨_, _, rfl, by omega, by omega, fun _ => ⟨_, _, rfl, (hc.from H (l - H) (by omega)).congr (fun i _ => ?_)⟩⟩
 unfold dg
 rw [Nat.pow_add, Nat.div_div_eq_div_mul]

theorem kara_sum (x0 x1 y0 y1 P : Nat) : (x0 + x1) * (y0 + y1) = x0 * y0 + x1 * y1 + (x0 * y1 + x1 * y0) ∧ x0 * y0 + (x0 * y1 + x1 * y0) * P + x1 * y1 * (P * P) = (x0 + x1 * P) * (y0 + y1 * P) := by
 constructor
 ·rw [Nat.add_mul, Nat.mul_add, Nat.mul_add]; omega
 ·rw [Nat.add_mul x0, Nat.mul_add x0, Nat.mul_add (x1 * P), Nat.add_mul (x0 * y1), Nat.mul_mul_mul_comm x1 P y1 P, ← Nat.mul_assoc x0 y1 P, Nat.mul_right_comm x1 P y0]; omega

set_option maxRecDepth 20000 in
set_option maxHeartbeats 2000000 in
theorem halves_wide (g N ba oa la ca bb ob lb cb x y H : Nat) (w : World) (hN : N = la + lb) (hH : H = (la + 1) / 2) (h40 : 40 ≤ lb) (hl : la ≤ 400000) (hlb2 : lb ≤ la) (h2 : la < 2 * lb) (hca : la ≤ ca) (hcb : lb ≤ cb) (hcH : ¬ cb = H)
  (hout : Cells w .u64 g 0 N (fun _ => 0)) (hs : Soft w g 0 N) (ha : Cells w .u64 ba oa la (dg W32 x)) (hb : Cells w .u64 bb ob lb (dg W32 y))
  (hnx : nl W32 x = la) (hny : nl W32 y = lb) (IH : ∀ p q, nl W32 p + nl W32 q < la + lb → ProdAt p q) :
  Calls Tryz.prog 189 #[.slice (some ⟨g, 0, none⟩) N N, .slice (some ⟨ba, oa, none⟩) la ca, .slice (some ⟨bb, ob, none⟩) lb cb] w fun e w' =>
   e = .returned (.tuple #[]) ∧ ∃ h, Cells w' .u64 g 0 N h ∧ U32 N h ∧ val W32 h N = ((x * y : Nat) : Int) ∧ Upd w w' g 0 N := by
 have hglt := hout.lt (show 0 < N by omega)
 have hxl := lt_pow_nl W32 x (by decide)
 have hyl := lt_pow_nl W32 y (by decide)
 rw [hnx] at hxl
 rw [hny] at hyl
 have hHb : 0 < H ∧ H < la ∧ H ≤ lb ∧ la ≤ 2 * H ∧ 2 * H ≤ la + 1 := by omega
 obtain ⟨b1, b2, b3, b4, b5⟩ := hHb
 have hHi : ((la : Int) + 1) / 2 = (H : Int) := by omega
 have hWH : 0 < W32 ^ H := Nat.pow_pos (by decide)
 -- the halves
 have hA1 : Rep w (.slice (some ⟨ba, oa + H, none⟩) (la - H) (ca - H)) (x / W32 ^ H) := rep_hi ha hnx (by omega) hca (by unfold LIM; omega)
 have hB1 : Rep w (.slice (some ⟨bb, ob + H, none⟩) (lb - H) (cb - H)) (y / W32 ^ H) := by
  exact rep_hi hb hny (by omega) hcb (by unfold LIM; omega)
 have hA0 : Nums .u64 w (.slice (some ⟨ba, oa, none⟩) H ca) H (dg W32 x) := ⟨_, _, rfl, by omega, by unfold LIM; omega, fun _ => ⟨_, _, rfl, ha.mono (by omega)⟩⟩
 have hB0 : Nums .u64 w (.slice (some ⟨bb, ob, none⟩) H cb) H (dg W32 y) := ⟨_, _, rfl, by omega, by unfold LIM; omega, fun _ => ⟨_, _, rfl, hb.mono (by omega)⟩⟩
 have VA0 : Hid (val W32 (dg W32 x) H = ((x % W32 ^ H : Nat) : Int)) := val_dg W32 x H
 have VB0 : Hid (val W32 (dg W32 y) H = ((y % W32 ^ H : Nat) : Int)) := val_dg W32 y H
 have hUa : ∀ i, i < H → 0 ≤ dg W32 x i ∧ dg W32 x i < (W32 : Int) := fun i _ => dg_bounds W32 x i (by decide)
 have hUb : ∀ i, i < H → 0 ≤ dg W32 y i ∧ dg W32 y i < (W32 : Int) := fun i _ => dg_bounds W32 y i (by decide)
 have ex : x % W32 ^ H + x / W32 ^ H * W32 ^ H = x := by rw [Nat.mul_comm]; have := Nat.div_add_mod x (W32 ^ H); omega
 have ey : y % W32 ^ H + y / W32 ^ H * W32 ^ H = y := by rw [Nat.mul_comm]; have := Nat.div_add_mod y (W32 ^ H); omega
 have lx0 : x % W32 ^ H < W32 ^ H := Nat.mod_lt _ hWH
 have ly0 : y % W32 ^ H < W32 ^ H := Nat.mod_lt _ hWH
 have lx1 : x / W32 ^ H < W32 ^ H := Nat.div_lt_of_lt_mul (by rw [← Nat.pow_add]; exact Nat.lt_of_lt_of_le hxl (Nat.pow_le_pow_right (by decide) (by omega)))
 have ly1 : y / W32 ^ H < W32 ^ H := Nat.div_lt_of_lt_mul (by rw [← Nat.pow_add]; exact Nat.lt_of_lt_of_le hyl (Nat.pow_le_pow_right (by decide) (by omega)))
 have hx1p : 0 < x / W32 ^ H := by
  refine Nat.div_pos ?_ hWH
  have := pow_le_of_nl W32 x (by omega)
  rw [hnx] at this
  exact Nat.le_trans (Nat.pow_le_pow_right (by decide) (by omega)) this
 have hyp : 0 < y % W32 ^ H + y / W32 ^ H := by
  rcases Nat.eq_zero_or_pos (y % W32 ^ H + y / W32 ^ H) with e | e
  ·have e1 : y % W32 ^ H = 0 := (Nat.add_eq_zero_iff.1 e).1
   have e2 : y / W32 ^ H = 0 := (Nat.add_eq_zero_iff.1 e).2
   rw [e1, e2, Nat.zero_mul] at ey
   rw [← ey, nl_zero] at hny; omega
  ·exact e
 have hxy : x * y < W32 ^ N := by rw [hN, Nat.pow_add]; exact Nat.mul_lt_mul_of_lt_of_lt hxl hyl
 generalize x % W32 ^ H = x0 at *
 generalize x / W32 ^ H = x1 at *
 generalize y % W32 ^ H = y0 at *
 generalize y / W32 ^ H = y1 at *
 obtain ⟨k1, k2⟩ := kara_sum x0 x1 y0 y1 (W32 ^ H)
 rw [ex, ey, ← Nat.pow_add] at k2
 have nx0 := nl_le W32 x0 H (by decide) lx0
 have ny0 := nl_le W32 y0 H (by decide) ly0
 have nx1 := nl_le W32 x1 H (by decide) lx1
 have ny1 := nl_le W32 y1 H (by decide) ly1
 have hW2 : W32 ^ H * 2 ≤ W32 ^ (H + 1) := by rw [Nat.pow_succ]; exact Nat.mul_le_mul_left _ (by decide)
 have nsx : nl W32 (x0 + x1) ≤ H + 1 := nl_le W32 _ _ (by decide) (by omega)
 have nsy : nl W32 (y0 + y1) ≤ H + 1 := nl_le W32 _ _ (by decide) (by omega)
 have I1 : Hid (ProdAt x0 y0) := IH x0 y0 (by omega)
 have I2 : Hid (ProdAt x1 y1) := IH x1 y1 (by omega)
 have I3 : Hid (ProdAt (x0 + x1) (y0 + y1)) := IH _ _ (by omega)
 have hmid : 0 < (x0 + x1) * (y0 + y1) := Nat.mul_pos (by omega) hyp
 generalize hM : (x0 + x1) * (y0 + y1) = M at *
 generalize hLo : x0 * y0 = lo' at *
 generalize hHi2 : x1 * y1 = hi' at *
 generalize x0 * y1 + x1 * y0 = K at *
 have hnlo : nl W32 lo' ≤ nl W32 M := by
  by_cases q : nl W32 M < nl W32 lo'
  ·have := lt_of_nl W32 M lo' (by decide) q; omega
  ·omega
 have hnhi : nl W32 hi' ≤ nl W32 M := by
  by_cases q : nl W32 M < nl W32 hi'
  ·have := lt_of_nl W32 M hi' (by decide) q; omega
  ·omega
 have hM0 : 0 < nl W32 M := by
  rcases Nat.eq_zero_or_pos (nl W32 M) with e | e
  ·have := (nl_eq_zero W32 M (by decide)).1 e; omega
  ·exact e
 have i1 : (0 : Int) ≤ (H : Int) := by omega
 have i2 : (H : Int) ≤ (la : Int) := by omega
 have i3 : (H : Int) ≤ (ca : Int) := by omega
 have i4 : (H : Int) ≤ (lb : Int) := by omega
 have i5 : (H : Int) ≤ (cb : Int) := by omega
 have i6 : (H : Int) ≤ (N : Int) := by omega
 have n1 : ¬ ca = H := by omega
 have n2 : ¬ N = H := by omega
 have n3 : ¬ N = 2 * H := by omega
 have i7 : 2 * (H : Int) ≤ (N : Int) := by omega
 have hNL : N ≤ LIM := by unfold LIM; omega
 have j1 : 2 * H ≤ N := by omega
 have j2 : H ≤ N := by omega
 have nxs : nl W32 x0 ≤ 1000000 ∧ nl W32 x1 ≤ 1000000 ∧ nl W32 y0 ≤ 1000000 ∧ nl W32 y1 ≤ 1000000 := by omega
 clear hN hH IH ex ey hxl hyl lx0 ly0 lx1 ly1 hW2 nsx nsy
 go_enter Tryz.func189, Tryz.ntmps189
 go_wp2
 go_region_held3 (fun _ => True) (trivial) (first
  | (go_at_call 168; refine (cut_nums (.slice (some ⟨ba, oa, none⟩) H ca) H _ _ x0 (by exact hA0) hUa VA0.out).mono ?_; rintro e wc ⟨va0, rfl, hva0, rfl⟩))
 go_wp2
 go_region_held3 (fun _ => True) (trivial) (first
  | (go_at_call 168; refine (cut_nums (.slice (some ⟨bb, ob, none⟩) H cb) H _ _ y0 (by exact hB0) hUb VB0.out).mono ?_; rintro e wc ⟨vb0, rfl, hvb0, rfl⟩))
 have q0 : Hid (lo' + K * W32 ^ H + hi' * W32 ^ (H + H) = x * y) := k2
 have q1 : Hid (M = lo' + hi' + K) := by show _ = _; rw [← k1]
 have q2 : Hid (x * y < W32 ^ N) := hxy
 have q3 : Hid (x0 * y0 = lo') := hLo
 have q4 : Hid (x1 * y1 = hi') := hHi2
 have q5 : Hid ((x0 + x1) * (y0 + y1) = M) := hM
 clear k1 k2 hxy hLo hHi2 hM hnx hny hA0 hB0 hUa hUb VA0 VB0
 go_wp2_with fail
 refine (I1.out _ _ _ (by exact hva0) (by exact hvb0)).mono ?_
 rintro e w1 ⟨vl, rfl, hvl0, hb10⟩
 have hvl : RepM w.heap.size w1 vl lo' := (by rw [← q3.out]; exact hvl0)
 have hb1 : Below w.heap.size w w1 := ⟨hb10.os, hb10.tape, hb10.output, hb10.size, hb10.block⟩
 have s1 := hb1.size
 have hA1a := Nums.below hA1 hb1
 have hB1a := Nums.below hB1 hb1
 go_wp2_with fail
 refine (I2.out _ _ _ (by exact hA1a) (by exact hB1a)).mono ?_
 rintro e w2 ⟨vh, rfl, hvh0, hb2⟩
 have hvh : RepM w1.heap.size w2 vh hi' := (by rw [← q4.out]; exact hvh0)
 have s2 := hb2.size
 have hva2 := Nums.below (Nums.below (show Rep w va0 x0 from hva0) hb1) hb2
 have hvb2 := Nums.below (Nums.below (show Rep w vb0 y0 from hvb0) hb1) hb2
 have hA2 := Nums.below hA1a hb2
 have hB2 := Nums.below hB1a hb2
 go_wp2_with fail
 refine (sum_any _ _ x0 x1 _ (by exact hva2) (by exact hA2) (by omega) (by omega)).mono ?_
 rintro e w3 ⟨vs, rfl, hvs, hb3⟩
 have s3 := hb3.size
 have hvb3 := Nums.below hvb2 hb3
 have hB3 := Nums.below hB2 hb3
 go_wp2_with fail
 refine (sum_any _ _ y0 y1 _ (by exact hvb3) (by exact hB3) (by omega) (by omega)).mono ?_
 rintro e w4 ⟨vt, rfl, hvt, hb4⟩
 have s4 := hb4.size
 have hvs4 := Nums.below hvs.rep hb4
 go_wp2_with fail
 refine (I3.out _ _ _ (by exact hvs4) (by exact hvt.rep)).mono ?_
 rintro e w5 ⟨vm, rfl, hvm0, hb5⟩
 have hvm : RepM w4.heap.size w5 vm M := (by rw [← q5.out]; exact hvm0)
 have s5 := hb5.size
 clear hvs hvt hvs4 hvb3 hB3 hva2 hvb2 hA2 hB2 hA1a hB1a hvm0 hvh0 hvl0 I1 I2 I3 q3 q4 q5
 have hvl5 : Rep w5 vl lo' := Nums.below (Nums.below (Nums.below (Nums.below hvl.rep hb2) hb3) hb4) hb5
 have hvh5 : Rep w5 vh hi' := Nums.below (Nums.below (Nums.below hvh.rep hb3) hb4) hb5
 have hB5 : Below w.heap.size w w5 := hb1.trans ((hb2.mono s1).trans ((hb3.mono (by omega)).trans ((hb4.mono (by omega)).trans (hb5.mono (by omega)))))
 have hvlne : 0 < nl W32 lo' → ∀ b o c, vl = .slice (some ⟨b, o, none⟩) (nl W32 lo') c → b < w1.heap.size := repM_lt hvl
 have hvhne : 0 < nl W32 hi' → ∀ b o c, vh = .slice (some ⟨b, o, none⟩) (nl W32 hi') c → b < w2.heap.size := repM_lt hvh
 have hvlg := repM_ne hvl hglt
 have hvhg := repM_ne hvh (g := g) (by omega)
 have vM : Hid (val W32 (dg W32 M) (nl W32 M) = (M : Int)) := val_nl W32 M (by decide)
 have vL : Hid (val W32 (dg W32 lo') (nl W32 lo') = (lo' : Int)) := val_nl W32 lo' (by decide)
 have vH : Hid (val W32 (dg W32 hi') (nl W32 hi') = (hi' : Int)) := val_nl W32 hi' (by decide)
 have hout5 := hout.below hB5 hglt
 have hs5 := hs.below hB5 hglt
 clear hb1 hb2 hb3 hb4 hb5 hvl hvh hb10
 obtain ⟨mo, mc, rfl, hmc, hml, hm4⟩ := hvm
 obtain ⟨bm, om, rfl, hcm, hsm, hBm⟩ := hm4 hM0
 clear hm4
 have hum := u32_dg M (nl W32 M)
 have hbm5 := hcm.lt hM0
 generalize nl W32 M = nM at *
 go_wp2_with fail
 refine (takeFrom_any bm om nM mc vl (nl W32 lo') (dg W32 M) (dg W32 lo') _ hml hnlo hcm hsm hum hvl5 (u32_dg _ _) (fun hp b o c he => by have := hvlne hp b o c he; omega) (by rw [vM.out, vL.out]; have := q1.out; clear hWH; omega)).mono ?_
 rintro e w6 ⟨rfl, h6, hc6, hu6, hv6, hup6⟩
 have hvl6 : Rep w6 vl lo' := Nums.upd hvl5 hup6 (fun b o c he hp => by have := hvlne hp b o c he; omega)
 have hvh6 : Rep w6 vh hi' := Nums.upd hvh5 hup6 (fun b o c he hp => by have := hvhne hp b o c he; omega)
 have hsm6 := hsm.upd hbm5 hup6
 go_wp2_with fail
 refine (takeFrom_any bm om nM mc vh (nl W32 hi') h6 (dg W32 hi') _ hml hnhi hc6 hsm6 hu6 hvh6 (u32_dg _ _) (fun hp b o c he => by have := hvhne hp b o c he; omega) (by rw [hv6, vM.out, vL.out, vH.out]; have := q1.out; clear hWH; omega)).mono ?_
 rintro e w7 ⟨rfl, h7, hc7, hu7, hv7, hup7⟩
 have hvl7 : Rep w7 vl lo' := Nums.upd hvl6 hup7 (fun b o c he hp => by have := hvlne hp b o c he; omega)
 have hvh7 : Rep w7 vh hi' := Nums.upd hvh6 hup7 (fun b o c he hp => by have := hvhne hp b o c he; omega)
 have hbm6 := hc6.lt hM0
 have hsm7 := hsm6.upd hbm6 hup7
 have hB7 : Below w.heap.size w w7 := hB5.trans ((hup6.below (by omega) hB5.size).trans (hup7.below (by omega) (Nat.le_trans hB5.size hup6.size)))
 have hout7 := hout.below hB7 hglt
 have hs7 := hs.below hB7 hglt
 have hK : Hid (val W32 h7 nM = (K : Int)) := by show _ = _; rw [hv7, hv6, vM.out, vL.out, vH.out]; have := q1.out; omega
 have hbm7 := hc7.lt hM0
 have hgbm : g ≠ bm := by omega
 clear hv6 hv7 hc6 hu6 hcm hsm hum hsm6 hup6 hup7 hvl5 hvl6 hvh5 hvh6 hB5 hout5 hs5 hbm5 hbm6 vM q1 hout hs
 -- adding up
 have hT1 : Hid (lo' + K * W32 ^ H < W32 ^ N) := by show _ < _; have := q0.out; have := q2.out; omega
 have hT0 : Hid (lo' < W32 ^ N) := by show _ < _; have := hT1.out; omega
 have hloN : nl W32 lo' ≤ N := nl_le W32 _ _ (by decide) hT0.out
 have cN : Hid ((W32 : Int) ^ N = ((W32 ^ N : Nat) : Int)) := by show _ = _; simp
 go_wp2_with fail
 refine (addInto_any g 0 N N vl (nl W32 lo') (fun _ => 0) (dg W32 lo') _ hNL hloN hout7 hs7 (fun _ _ => ⟨Int.le_refl _, (by decide : (0 : Int) < (W32 : Int))⟩) hvl7 (u32_dg _ _) hvlg (by rw [val_zero N (fun _ _ => rfl), vL.out, cN.out]; have := hT0.out; omega)).mono ?_
 rintro e w8 ⟨rfl, h8, hc8, hu8, hv8, hup8⟩
 have hv8' : Hid (val W32 h8 N = (lo' : Int)) := by show _ = _; rw [hv8, val_zero N (fun _ _ => rfl), vL.out]; omega
 have hvh8 : Rep w8 vh hi' := Nums.upd hvh7 hup8 (fun b o c he hp => hvhg hp b o c he)
 have hc78 := hc7.upd hup8 (.inl (Ne.symm hgbm))
 have hsm8 := hsm7.upd hbm7 hup8
 have hg7 := hout7.lt (show 0 < N by omega)
 have hs8 := hs7.upd hg7 hup8
 have hMine : Mine .u64 (g + 1) w8 (.slice (some ⟨bm, om, none⟩) nM mc) nM h7 := ⟨_, _, rfl, hmc, hml, fun _ => ⟨_, _, rfl, hc78, hsm8, by omega⟩⟩
 have hUw8 : Upd w w8 g 0 N := (Upd.of_below hB7 hglt).trans hup8
 clear hv8 hvl7 hvh7 hup8 hc7 hc78 hsm7 hsm8 hs7 hout7 hvlne hvlg vL hT0 hB7
 have HA1 : Hid (∀ h2 : Nat → Int, val W32 (fun j => h8 (H + j)) (N - H) + (K : Int) < (W32 : Int) ^ (N - H) ∧ (val W32 h2 (N - H) = val W32 (fun j => h8 (H + j)) (N - H) + (K : Int) → val W32 (layEnd h8 h2 H) N = ((lo' + K * W32 ^ H : Nat) : Int))) := fun h2 => add_from h8 h2 N H lo' K _ j2 hu8 hv8'.out rfl hT1.out
 have hKnl : nl W32 K ≤ N - H := by
  refine nl_le W32 _ _ (by decide) ?_
  have h1 := (HA1.out (fun _ => 0)).1
  have h2 := (val_bounds W32 (fun j => h8 (H + j)) (N - H) (fun j hj => hu8 (H + j) (by omega))).1
  have e : ((W32 ^ (N - H) : Nat) : Int) = (W32 : Int) ^ (N - H) := by simp
  omega
 have vK : Hid (val W32 (dg W32 K) (nl W32 K) = (K : Int)) := val_nl W32 K (by decide)
 have hrow8 : Cells w8 .u64 g H (N - H) (fun j => h8 (H + j)) := by
  have := hc8.from H (N - H) (by omega); rw [Nat.zero_add] at this; exact this
 have hsrow8 : Soft w8 g H (N - H) := by
  have := hs8.from H (N - H) (by omega); rw [Nat.zero_add] at this; exact this
 have hurow8 : U32 (N - H) (fun j => h8 (H + j)) := fun j hj => hu8 (H + j) (by omega)
 have hlim8 : N - H ≤ LIM := by unfold LIM at *; omega
 have hg1 : g < g + 1 := by omega
 clear ha hb hA1 hB1 hva0 hvb0 nx0 ny0 nx1 ny1 nxs hx1p hyp hmid
 have hg8 := hc8.lt (show 0 < N by omega)
 go_wp2
 go_region_held3 (fun _ => True) (trivial) (first
  | (go_at_call 168; refine (cut_mine (g + 1) (.slice (some ⟨bm, om, none⟩) nM mc) nM h7 _ K (by exact hMine) hu7 hK.out).mono ?_; rintro e wc ⟨vk, rfl, hvk0, rfl⟩; have hvk : RepM (g + 1) w8 vk K := hvk0)
  | (go_at_call 204; refine (addInto_any g H (N - H) (N - H) vk (nl W32 K) (fun j => h8 (H + j)) (dg W32 K) _ hlim8 hKnl (by exact hrow8) (by exact hsrow8) hurow8 (by exact hvk.rep) (u32_dg _ _) (repM_ne hvk hg1) (by rw [vK.out]; exact (HA1.out (fun _ => 0)).1)).mono ?_; rintro e w9 ⟨rfl, h9, hc9, hu9, hv9, hup90⟩; have hup9 : Upd w8 w9 g H (N - H) := ⟨hup90.os, hup90.tape, hup90.output, hup90.size, hup90.block, hup90.cell, hup90.froz⟩))
 rw [vK.out] at hv9
 have hvN9 : Hid (val W32 (layEnd h8 h9 H) N = ((lo' + K * W32 ^ H : Nat) : Int)) := (HA1.out h9).2 hv9
 have hcN9 := cells_layEnd hc8 hc9 hup9
 have huN9 := u32_layEnd hu8 hu9
 have hs9 := hs8.upd hg8 hup9
 have hvh9 : Rep w9 vh hi' := Nums.upd hvh8 hup9 (fun b o c he hp => hvhg hp b o c he)
 have hUw9 : Upd w w9 g 0 N := hUw8.trans (hup9.mono (by omega) (by omega))
 clear hup9 hup90 hc9 hv9 hu9 hvk hvk0 HA1 vK hrow8 hsrow8 hurow8 hlim8 hv8' hc8 hu8 hs8 hvh8 hUw8 hMine hK hKnl hu7
 generalize layEnd h8 h9 H = h10 at *
 have HA2 : Hid (∀ h2 : Nat → Int, val W32 (fun j => h10 (2 * H + j)) (N - 2 * H) + (hi' : Int) < (W32 : Int) ^ (N - 2 * H) ∧ (val W32 h2 (N - 2 * H) = val W32 (fun j => h10 (2 * H + j)) (N - 2 * H) + (hi' : Int) → val W32 (layEnd h10 h2 (2 * H)) N = ((x * y : Nat) : Int))) := fun h2 => add_from h10 h2 N (2 * H) _ hi' _ j1 huN9 hvN9.out (by rw [Nat.two_mul]; exact q0.out) q2.out
 have hHnl : nl W32 hi' ≤ N - 2 * H := by
  refine nl_le W32 _ _ (by decide) ?_
  have h1 := (HA2.out (fun _ => 0)).1
  have h2 := (val_bounds W32 (fun j => h10 (2 * H + j)) (N - 2 * H) (fun j hj => huN9 (2 * H + j) (by omega))).1
  have e : ((W32 ^ (N - 2 * H) : Nat) : Int) = (W32 : Int) ^ (N - 2 * H) := by simp
  omega
 have hrow9 : Cells w9 .u64 g (2 * H) (N - 2 * H) (fun j => h10 (2 * H + j)) := by
  have := hcN9.from (2 * H) (N - 2 * H) (by omega); rw [Nat.zero_add] at this; exact this
 have hsrow9 : Soft w9 g (2 * H) (N - 2 * H) := by
  have := hs9.from (2 * H) (N - 2 * H) (by omega); rw [Nat.zero_add] at this; exact this
 have hurow9 : U32 (N - 2 * H) (fun j => h10 (2 * H + j)) := fun j hj => huN9 (2 * H + j) (by omega)
 have hlim9 : N - 2 * H ≤ LIM := by unfold LIM at *; omega
 have hg9 := hcN9.lt (show 0 < N by omega)
 go_wp2_with fail
 refine (addInto_any g (2 * H) (N - 2 * H) (N - 2 * H) vh (nl W32 hi') (fun j => h10 (2 * H + j)) (dg W32 hi') _ hlim9 hHnl hrow9 hsrow9 hurow9 hvh9 (u32_dg _ _) hvhg (by rw [vH.out]; exact (HA2.out (fun _ => 0)).1)).mono ?_
 rintro e w10 ⟨rfl, h11, hc11, hu11, hv11, hup11⟩
 rw [vH.out] at hv11
 have hvN := (HA2.out h11).2 hv11
 have hcN := cells_layEnd hcN9 hc11 hup11
 have huN := u32_layEnd huN9 hu11
 have hUw := hUw9.trans (hup11.mono (by omega) (by omega))
 generalize layEnd h10 h11 (2 * H) = h12 at *
 clear hup11 hc11 hv11 hu11 hcN9 huN9 hs9 hvh9 hUw9 HA2 hHnl hrow9 hsrow9 hurow9 hlim9
 go_wp2
 go_end0
 exact ⟨rfl, h12, hcN, huN, hvN, hUw⟩

set_option maxRecDepth 20000 in
set_option maxHeartbeats 2000000 in
theorem halves_tight (g N ba oa la ca bb ob x y H : Nat) (w : World) (hN : N = la + H) (hH : H = (la + 1) / 2) (h40 : 40 ≤ H) (hl : la ≤ 400000) (hlb2 : H ≤ la) (h2 : la < 2 * H) (hca : la ≤ ca)
  (hout : Cells w .u64 g 0 N (fun _ => 0)) (hs : Soft w g 0 N) (ha : Cells w .u64 ba oa la (dg W32 x)) (hb : Cells w .u64 bb ob H (dg W32 y))
  (hnx : nl W32 x = la) (hny : nl W32 y = H) (IH : ∀ p q, nl W32 p + nl W32 q < la + H → ProdAt p q) :
  Calls Tryz.prog 189 #[.slice (some ⟨g, 0, none⟩) N N, .slice (some ⟨ba, oa, none⟩) la ca, .slice (some ⟨bb, ob, none⟩) H H] w fun e w' =>
   e = .returned (.tuple #[]) ∧ ∃ h, Cells w' .u64 g 0 N h ∧ U32 N h ∧ val W32 h N = ((x * y : Nat) : Int) ∧ Upd w w' g 0 N := by
 have hglt := hout.lt (show 0 < N by omega)
 have hxl := lt_pow_nl W32 x (by decide)
 have hyl := lt_pow_nl W32 y (by decide)
 rw [hnx] at hxl
 rw [hny] at hyl
 have hHb : 0 < H ∧ H < la ∧ H ≤ H ∧ la ≤ 2 * H ∧ 2 * H ≤ la + 1 := by omega
 obtain ⟨b1, b2, b3, b4, b5⟩ := hHb
 have hHi : ((la : Int) + 1) / 2 = (H : Int) := by omega
 have hWH : 0 < W32 ^ H := Nat.pow_pos (by decide)
 -- the halves
 have hA1 : Rep w (.slice (some ⟨ba, oa + H, none⟩) (la - H) (ca - H)) (x / W32 ^ H) := rep_hi ha hnx (by omega) hca (by unfold LIM; omega)
 have hB1 : Rep w (.slice (some ⟨bb, ob, none⟩) 0 0) (y / W32 ^ H) := by
  have e : y / W32 ^ H = 0 := Nat.div_eq_of_lt hyl
  rw [e]; unfold Rep; rw [nl_zero]
  exact ⟨_, _, rfl, Nat.le_refl _, Nat.zero_le _, fun h => absurd h (by omega)⟩
 have hA0 : Nums .u64 w (.slice (some ⟨ba, oa, none⟩) H ca) H (dg W32 x) := ⟨_, _, rfl, by omega, by unfold LIM; omega, fun _ => ⟨_, _, rfl, ha.mono (by omega)⟩⟩
 have hB0 : Nums .u64 w (.slice (some ⟨bb, ob, none⟩) H H) H (dg W32 y) := ⟨_, _, rfl, by omega, by unfold LIM; omega, fun _ => ⟨_, _, rfl, hb.mono (by omega)⟩⟩
 have VA0 : Hid (val W32 (dg W32 x) H = ((x % W32 ^ H : Nat) : Int)) := val_dg W32 x H
 have VB0 : Hid (val W32 (dg W32 y) H = ((y % W32 ^ H : Nat) : Int)) := val_dg W32 y H
 have hUa : ∀ i, i < H → 0 ≤ dg W32 x i ∧ dg W32 x i < (W32 : Int) := fun i _ => dg_bounds W32 x i (by decide)
 have hUb : ∀ i, i < H → 0 ≤ dg W32 y i ∧ dg W32 y i < (W32 : Int) := fun i _ => dg_bounds W32 y i (by decide)
 have ex : x % W32 ^ H + x / W32 ^ H * W32 ^ H = x := by rw [Nat.mul_comm]; have := Nat.div_add_mod x (W32 ^ H); omega
 have ey : y % W32 ^ H + y / W32 ^ H * W32 ^ H = y := by rw [Nat.mul_comm]; have := Nat.div_add_mod y (W32 ^ H); omega
 have lx0 : x % W32 ^ H < W32 ^ H := Nat.mod_lt _ hWH
 have ly0 : y % W32 ^ H < W32 ^ H := Nat.mod_lt _ hWH
 have lx1 : x / W32 ^ H < W32 ^ H := Nat.div_lt_of_lt_mul (by rw [← Nat.pow_add]; exact Nat.lt_of_lt_of_le hxl (Nat.pow_le_pow_right (by decide) (by omega)))
 have ly1 : y / W32 ^ H < W32 ^ H := Nat.div_lt_of_lt_mul (by rw [← Nat.pow_add]; exact Nat.lt_of_lt_of_le hyl (Nat.pow_le_pow_right (by decide) (by omega)))
 have hx1p : 0 < x / W32 ^ H := by
  refine Nat.div_pos ?_ hWH
  have := pow_le_of_nl W32 x (by omega)
  rw [hnx] at this
  exact Nat.le_trans (Nat.pow_le_pow_right (by decide) (by omega)) this
 have hyp : 0 < y % W32 ^ H + y / W32 ^ H := by
  rcases Nat.eq_zero_or_pos (y % W32 ^ H + y / W32 ^ H) with e | e
  ·have e1 : y % W32 ^ H = 0 := (Nat.add_eq_zero_iff.1 e).1
   have e2 : y / W32 ^ H = 0 := (Nat.add_eq_zero_iff.1 e).2
   rw [e1, e2, Nat.zero_mul] at ey
   rw [← ey, nl_zero] at hny; omega
  ·exact e
 have hxy : x * y < W32 ^ N := by rw [hN, Nat.pow_add]; exact Nat.mul_lt_mul_of_lt_of_lt hxl hyl
 generalize x % W32 ^ H = x0 at *
 generalize x / W32 ^ H = x1 at *
 generalize y % W32 ^ H = y0 at *
 generalize y / W32 ^ H = y1 at *
 obtain ⟨k1, k2⟩ := kara_sum x0 x1 y0 y1 (W32 ^ H)
 rw [ex, ey, ← Nat.pow_add] at k2
 have nx0 := nl_le W32 x0 H (by decide) lx0
 have ny0 := nl_le W32 y0 H (by decide) ly0
 have nx1 := nl_le W32 x1 H (by decide) lx1
 have ny1 := nl_le W32 y1 H (by decide) ly1
 have hW2 : W32 ^ H * 2 ≤ W32 ^ (H + 1) := by rw [Nat.pow_succ]; exact Nat.mul_le_mul_left _ (by decide)
 have nsx : nl W32 (x0 + x1) ≤ H + 1 := nl_le W32 _ _ (by decide) (by omega)
 have nsy : nl W32 (y0 + y1) ≤ H + 1 := nl_le W32 _ _ (by decide) (by omega)
 have I1 : Hid (ProdAt x0 y0) := IH x0 y0 (by omega)
 have I2 : Hid (ProdAt x1 y1) := IH x1 y1 (by omega)
 have I3 : Hid (ProdAt (x0 + x1) (y0 + y1)) := IH _ _ (by omega)
 have hmid : 0 < (x0 + x1) * (y0 + y1) := Nat.mul_pos (by omega) hyp
 generalize hM : (x0 + x1) * (y0 + y1) = M at *
 generalize hLo : x0 * y0 = lo' at *
 generalize hHi2 : x1 * y1 = hi' at *
 generalize x0 * y1 + x1 * y0 = K at *
 have hnlo : nl W32 lo' ≤ nl W32 M := by
  by_cases q : nl W32 M < nl W32 lo'
  ·have := lt_of_nl W32 M lo' (by decide) q; omega
  ·omega
 have hnhi : nl W32 hi' ≤ nl W32 M := by
  by_cases q : nl W32 M < nl W32 hi'
  ·have := lt_of_nl W32 M hi' (by decide) q; omega
  ·omega
 have hM0 : 0 < nl W32 M := by
  rcases Nat.eq_zero_or_pos (nl W32 M) with e | e
  ·have := (nl_eq_zero W32 M (by decide)).1 e; omega
  ·exact e
 have i1 : (0 : Int) ≤ (H : Int) := by omega
 have i2 : (H : Int) ≤ (la : Int) := by omega
 have i3 : (H : Int) ≤ (ca : Int) := by omega
 have i4 : (H : Int) ≤ (H : Int) := by omega
 have i5 : (H : Int) ≤ (H : Int) := by omega
 have i6 : (H : Int) ≤ (N : Int) := by omega
 have n1 : ¬ ca = H := by omega
 have n2 : ¬ N = H := by omega
 have n3 : ¬ N = 2 * H := by omega
 have i7 : 2 * (H : Int) ≤ (N : Int) := by omega
 have hNL : N ≤ LIM := by unfold LIM; omega
 have j1 : 2 * H ≤ N := by omega
 have j2 : H ≤ N := by omega
 have nxs : nl W32 x0 ≤ 1000000 ∧ nl W32 x1 ≤ 1000000 ∧ nl W32 y0 ≤ 1000000 ∧ nl W32 y1 ≤ 1000000 := by omega
 clear hN hH IH ex ey hxl hyl lx0 ly0 lx1 ly1 hW2 nsx nsy
 go_enter Tryz.func189, Tryz.ntmps189
 go_wp2
 go_region_held3 (fun _ => True) (trivial) (first
  | (go_at_call 168; refine (cut_nums (.slice (some ⟨ba, oa, none⟩) H ca) H _ _ x0 (by exact hA0) hUa VA0.out).mono ?_; rintro e wc ⟨va0, rfl, hva0, rfl⟩))
 go_wp2
 go_region_held3 (fun _ => True) (trivial) (first
  | (go_at_call 168; refine (cut_nums (.slice (some ⟨bb, ob, none⟩) H H) H _ _ y0 (by exact hB0) hUb VB0.out).mono ?_; rintro e wc ⟨vb0, rfl, hvb0, rfl⟩))
 have q0 : Hid (lo' + K * W32 ^ H + hi' * W32 ^ (H + H) = x * y) := k2
 have q1 : Hid (M = lo' + hi' + K) := by show _ = _; rw [← k1]
 have q2 : Hid (x * y < W32 ^ N) := hxy
 have q3 : Hid (x0 * y0 = lo') := hLo
 have q4 : Hid (x1 * y1 = hi') := hHi2
 have q5 : Hid ((x0 + x1) * (y0 + y1) = M) := hM
 clear k1 k2 hxy hLo hHi2 hM hnx hny hA0 hB0 hUa hUb VA0 VB0
 go_wp2_with fail
 refine (I1.out _ _ _ (by exact hva0) (by exact hvb0)).mono ?_
 rintro e w1 ⟨vl, rfl, hvl0, hb10⟩
 have hvl : RepM w.heap.size w1 vl lo' := (by rw [← q3.out]; exact hvl0)
 have hb1 : Below w.heap.size w w1 := ⟨hb10.os, hb10.tape, hb10.output, hb10.size, hb10.block⟩
 have s1 := hb1.size
 have hA1a := Nums.below hA1 hb1
 have hB1a := Nums.below hB1 hb1
 go_wp2_with fail
 refine (I2.out _ _ _ (by exact hA1a) (by exact hB1a)).mono ?_
 rintro e w2 ⟨vh, rfl, hvh0, hb2⟩
 have hvh : RepM w1.heap.size w2 vh hi' := (by rw [← q4.out]; exact hvh0)
 have s2 := hb2.size
 have hva2 := Nums.below (Nums.below (show Rep w va0 x0 from hva0) hb1) hb2
 have hvb2 := Nums.below (Nums.below (show Rep w vb0 y0 from hvb0) hb1) hb2
 have hA2 := Nums.below hA1a hb2
 have hB2 := Nums.below hB1a hb2
 go_wp2_with fail
 refine (sum_any _ _ x0 x1 _ (by exact hva2) (by exact hA2) (by omega) (by omega)).mono ?_
 rintro e w3 ⟨vs, rfl, hvs, hb3⟩
 have s3 := hb3.size
 have hvb3 := Nums.below hvb2 hb3
 have hB3 := Nums.below hB2 hb3
 go_wp2_with fail
 refine (sum_any _ _ y0 y1 _ (by exact hvb3) (by exact hB3) (by omega) (by omega)).mono ?_
 rintro e w4 ⟨vt, rfl, hvt, hb4⟩
 have s4 := hb4.size
 have hvs4 := Nums.below hvs.rep hb4
 go_wp2_with fail
 refine (I3.out _ _ _ (by exact hvs4) (by exact hvt.rep)).mono ?_
 rintro e w5 ⟨vm, rfl, hvm0, hb5⟩
 have hvm : RepM w4.heap.size w5 vm M := (by rw [← q5.out]; exact hvm0)
 have s5 := hb5.size
 clear hvs hvt hvs4 hvb3 hB3 hva2 hvb2 hA2 hB2 hA1a hB1a hvm0 hvh0 hvl0 I1 I2 I3 q3 q4 q5
 have hvl5 : Rep w5 vl lo' := Nums.below (Nums.below (Nums.below (Nums.below hvl.rep hb2) hb3) hb4) hb5
 have hvh5 : Rep w5 vh hi' := Nums.below (Nums.below (Nums.below hvh.rep hb3) hb4) hb5
 have hB5 : Below w.heap.size w w5 := hb1.trans ((hb2.mono s1).trans ((hb3.mono (by omega)).trans ((hb4.mono (by omega)).trans (hb5.mono (by omega)))))
 have hvlne : 0 < nl W32 lo' → ∀ b o c, vl = .slice (some ⟨b, o, none⟩) (nl W32 lo') c → b < w1.heap.size := repM_lt hvl
 have hvhne : 0 < nl W32 hi' → ∀ b o c, vh = .slice (some ⟨b, o, none⟩) (nl W32 hi') c → b < w2.heap.size := repM_lt hvh
 have hvlg := repM_ne hvl hglt
 have hvhg := repM_ne hvh (g := g) (by omega)
 have vM : Hid (val W32 (dg W32 M) (nl W32 M) = (M : Int)) := val_nl W32 M (by decide)
 have vL : Hid (val W32 (dg W32 lo') (nl W32 lo') = (lo' : Int)) := val_nl W32 lo' (by decide)
 have vH : Hid (val W32 (dg W32 hi') (nl W32 hi') = (hi' : Int)) := val_nl W32 hi' (by decide)
 have hout5 := hout.below hB5 hglt
 have hs5 := hs.below hB5 hglt
 clear hb1 hb2 hb3 hb4 hb5 hvl hvh hb10
 obtain ⟨mo, mc, rfl, hmc, hml, hm4⟩ := hvm
 obtain ⟨bm, om, rfl, hcm, hsm, hBm⟩ := hm4 hM0
 clear hm4
 have hum := u32_dg M (nl W32 M)
 have hbm5 := hcm.lt hM0
 generalize nl W32 M = nM at *
 go_wp2_with fail
 refine (takeFrom_any bm om nM mc vl (nl W32 lo') (dg W32 M) (dg W32 lo') _ hml hnlo hcm hsm hum hvl5 (u32_dg _ _) (fun hp b o c he => by have := hvlne hp b o c he; omega) (by rw [vM.out, vL.out]; have := q1.out; clear hWH; omega)).mono ?_
 rintro e w6 ⟨rfl, h6, hc6, hu6, hv6, hup6⟩
 have hvl6 : Rep w6 vl lo' := Nums.upd hvl5 hup6 (fun b o c he hp => by have := hvlne hp b o c he; omega)
 have hvh6 : Rep w6 vh hi' := Nums.upd hvh5 hup6 (fun b o c he hp => by have := hvhne hp b o c he; omega)
 have hsm6 := hsm.upd hbm5 hup6
 go_wp2_with fail
 refine (takeFrom_any bm om nM mc vh (nl W32 hi') h6 (dg W32 hi') _ hml hnhi hc6 hsm6 hu6 hvh6 (u32_dg _ _) (fun hp b o c he => by have := hvhne hp b o c he; omega) (by rw [hv6, vM.out, vL.out, vH.out]; have := q1.out; clear hWH; omega)).mono ?_
 rintro e w7 ⟨rfl, h7, hc7, hu7, hv7, hup7⟩
 have hvl7 : Rep w7 vl lo' := Nums.upd hvl6 hup7 (fun b o c he hp => by have := hvlne hp b o c he; omega)
 have hvh7 : Rep w7 vh hi' := Nums.upd hvh6 hup7 (fun b o c he hp => by have := hvhne hp b o c he; omega)
 have hbm6 := hc6.lt hM0
 have hsm7 := hsm6.upd hbm6 hup7
 have hB7 : Below w.heap.size w w7 := hB5.trans ((hup6.below (by omega) hB5.size).trans (hup7.below (by omega) (Nat.le_trans hB5.size hup6.size)))
 have hout7 := hout.below hB7 hglt
 have hs7 := hs.below hB7 hglt
 have hK : Hid (val W32 h7 nM = (K : Int)) := by show _ = _; rw [hv7, hv6, vM.out, vL.out, vH.out]; have := q1.out; omega
 have hbm7 := hc7.lt hM0
 have hgbm : g ≠ bm := by omega
 clear hv6 hv7 hc6 hu6 hcm hsm hum hsm6 hup6 hup7 hvl5 hvl6 hvh5 hvh6 hB5 hout5 hs5 hbm5 hbm6 vM q1 hout hs
 -- adding up
 have hT1 : Hid (lo' + K * W32 ^ H < W32 ^ N) := by show _ < _; have := q0.out; have := q2.out; omega
 have hT0 : Hid (lo' < W32 ^ N) := by show _ < _; have := hT1.out; omega
 have hloN : nl W32 lo' ≤ N := nl_le W32 _ _ (by decide) hT0.out
 have cN : Hid ((W32 : Int) ^ N = ((W32 ^ N : Nat) : Int)) := by show _ = _; simp
 go_wp2_with fail
 refine (addInto_any g 0 N N vl (nl W32 lo') (fun _ => 0) (dg W32 lo') _ hNL hloN hout7 hs7 (fun _ _ => ⟨Int.le_refl _, (by decide : (0 : Int) < (W32 : Int))⟩) hvl7 (u32_dg _ _) hvlg (by rw [val_zero N (fun _ _ => rfl), vL.out, cN.out]; have := hT0.out; omega)).mono ?_
 rintro e w8 ⟨rfl, h8, hc8, hu8, hv8, hup8⟩
 have hv8' : Hid (val W32 h8 N = (lo' : Int)) := by show _ = _; rw [hv8, val_zero N (fun _ _ => rfl), vL.out]; omega
 have hvh8 : Rep w8 vh hi' := Nums.upd hvh7 hup8 (fun b o c he hp => hvhg hp b o c he)
 have hc78 := hc7.upd hup8 (.inl (Ne.symm hgbm))
 have hsm8 := hsm7.upd hbm7 hup8
 have hg7 := hout7.lt (show 0 < N by omega)
 have hs8 := hs7.upd hg7 hup8
 have hMine : Mine .u64 (g + 1) w8 (.slice (some ⟨bm, om, none⟩) nM mc) nM h7 := ⟨_, _, rfl, hmc, hml, fun _ => ⟨_, _, rfl, hc78, hsm8, by omega⟩⟩
 have hUw8 : Upd w w8 g 0 N := (Upd.of_below hB7 hglt).trans hup8
 clear hv8 hvl7 hvh7 hup8 hc7 hc78 hsm7 hsm8 hs7 hout7 hvlne hvlg vL hT0 hB7
 have HA1 : Hid (∀ h2 : Nat → Int, val W32 (fun j => h8 (H + j)) (N - H) + (K : Int) < (W32 : Int) ^ (N - H) ∧ (val W32 h2 (N - H) = val W32 (fun j => h8 (H + j)) (N - H) + (K : Int) → val W32 (layEnd h8 h2 H) N = ((lo' + K * W32 ^ H : Nat) : Int))) := fun h2 => add_from h8 h2 N H lo' K _ j2 hu8 hv8'.out rfl hT1.out
 have hKnl : nl W32 K ≤ N - H := by
  refine nl_le W32 _ _ (by decide) ?_
  have h1 := (HA1.out (fun _ => 0)).1
  have h2 := (val_bounds W32 (fun j => h8 (H + j)) (N - H) (fun j hj => hu8 (H + j) (by omega))).1
  have e : ((W32 ^ (N - H) : Nat) : Int) = (W32 : Int) ^ (N - H) := by simp
  omega
 have vK : Hid (val W32 (dg W32 K) (nl W32 K) = (K : Int)) := val_nl W32 K (by decide)
 have hrow8 : Cells w8 .u64 g H (N - H) (fun j => h8 (H + j)) := by
  have := hc8.from H (N - H) (by omega); rw [Nat.zero_add] at this; exact this
 have hsrow8 : Soft w8 g H (N - H) := by
  have := hs8.from H (N - H) (by omega); rw [Nat.zero_add] at this; exact this
 have hurow8 : U32 (N - H) (fun j => h8 (H + j)) := fun j hj => hu8 (H + j) (by omega)
 have hlim8 : N - H ≤ LIM := by unfold LIM at *; omega
 have hg1 : g < g + 1 := by omega
 clear ha hb hA1 hB1 hva0 hvb0 nx0 ny0 nx1 ny1 nxs hx1p hyp hmid
 have hg8 := hc8.lt (show 0 < N by omega)
 go_wp2
 go_region_held3 (fun _ => True) (trivial) (first
  | (go_at_call 168; refine (cut_mine (g + 1) (.slice (some ⟨bm, om, none⟩) nM mc) nM h7 _ K (by exact hMine) hu7 hK.out).mono ?_; rintro e wc ⟨vk, rfl, hvk0, rfl⟩; have hvk : RepM (g + 1) w8 vk K := hvk0)
  | (go_at_call 204; refine (addInto_any g H (N - H) (N - H) vk (nl W32 K) (fun j => h8 (H + j)) (dg W32 K) _ hlim8 hKnl (by exact hrow8) (by exact hsrow8) hurow8 (by exact hvk.rep) (u32_dg _ _) (repM_ne hvk hg1) (by rw [vK.out]; exact (HA1.out (fun _ => 0)).1)).mono ?_; rintro e w9 ⟨rfl, h9, hc9, hu9, hv9, hup90⟩; have hup9 : Upd w8 w9 g H (N - H) := ⟨hup90.os, hup90.tape, hup90.output, hup90.size, hup90.block, hup90.cell, hup90.froz⟩))
 rw [vK.out] at hv9
 have hvN9 : Hid (val W32 (layEnd h8 h9 H) N = ((lo' + K * W32 ^ H : Nat) : Int)) := (HA1.out h9).2 hv9
 have hcN9 := cells_layEnd hc8 hc9 hup9
 have huN9 := u32_layEnd hu8 hu9
 have hs9 := hs8.upd hg8 hup9
 have hvh9 : Rep w9 vh hi' := Nums.upd hvh8 hup9 (fun b o c he hp => hvhg hp b o c he)
 have hUw9 : Upd w w9 g 0 N := hUw8.trans (hup9.mono (by omega) (by omega))
 clear hup9 hup90 hc9 hv9 hu9 hvk hvk0 HA1 vK hrow8 hsrow8 hurow8 hlim8 hv8' hc8 hu8 hs8 hvh8 hUw8 hMine hK hKnl hu7
 generalize layEnd h8 h9 H = h10 at *
 have HA2 : Hid (∀ h2 : Nat → Int, val W32 (fun j => h10 (2 * H + j)) (N - 2 * H) + (hi' : Int) < (W32 : Int) ^ (N - 2 * H) ∧ (val W32 h2 (N - 2 * H) = val W32 (fun j => h10 (2 * H + j)) (N - 2 * H) + (hi' : Int) → val W32 (layEnd h10 h2 (2 * H)) N = ((x * y : Nat) : Int))) := fun h2 => add_from h10 h2 N (2 * H) _ hi' _ j1 huN9 hvN9.out (by rw [Nat.two_mul]; exact q0.out) q2.out
 have hHnl : nl W32 hi' ≤ N - 2 * H := by
  refine nl_le W32 _ _ (by decide) ?_
  have h1 := (HA2.out (fun _ => 0)).1
  have h2 := (val_bounds W32 (fun j => h10 (2 * H + j)) (N - 2 * H) (fun j hj => huN9 (2 * H + j) (by omega))).1
  have e : ((W32 ^ (N - 2 * H) : Nat) : Int) = (W32 : Int) ^ (N - 2 * H) := by simp
  omega
 have hrow9 : Cells w9 .u64 g (2 * H) (N - 2 * H) (fun j => h10 (2 * H + j)) := by
  have := hcN9.from (2 * H) (N - 2 * H) (by omega); rw [Nat.zero_add] at this; exact this
 have hsrow9 : Soft w9 g (2 * H) (N - 2 * H) := by
  have := hs9.from (2 * H) (N - 2 * H) (by omega); rw [Nat.zero_add] at this; exact this
 have hurow9 : U32 (N - 2 * H) (fun j => h10 (2 * H + j)) := fun j hj => huN9 (2 * H + j) (by omega)
 have hlim9 : N - 2 * H ≤ LIM := by unfold LIM at *; omega
 have hg9 := hcN9.lt (show 0 < N by omega)
 go_wp2_with fail
 refine (addInto_any g (2 * H) (N - 2 * H) (N - 2 * H) vh (nl W32 hi') (fun j => h10 (2 * H + j)) (dg W32 hi') _ hlim9 hHnl hrow9 hsrow9 hurow9 hvh9 (u32_dg _ _) hvhg (by rw [vH.out]; exact (HA2.out (fun _ => 0)).1)).mono ?_
 rintro e w10 ⟨rfl, h11, hc11, hu11, hv11, hup11⟩
 rw [vH.out] at hv11
 have hvN := (HA2.out h11).2 hv11
 have hcN := cells_layEnd hcN9 hc11 hup11
 have huN := u32_layEnd huN9 hu11
 have hUw := hUw9.trans (hup11.mono (by omega) (by omega))
 generalize layEnd h10 h11 (2 * H) = h12 at *
 clear hup11 hc11 hv11 hu11 hcN9 huN9 hs9 hvh9 hUw9 HA2 hHnl hrow9 hsrow9 hurow9 hlim9
 go_wp2
 go_end0
 exact ⟨rfl, h12, hcN, huN, hvN, hUw⟩

theorem halves_any (g N ba oa la ca bb ob lb cb x y : Nat) (w : World) (hN : N = la + lb) (h40 : 40 ≤ lb) (hl : la ≤ 400000) (hlb2 : lb ≤ la) (h2 : la < 2 * lb) (hca : la ≤ ca) (hcb : lb ≤ cb)
  (hout : Cells w .u64 g 0 N (fun _ => 0)) (hs : Soft w g 0 N) (ha : Cells w .u64 ba oa la (dg W32 x)) (hb : Cells w .u64 bb ob lb (dg W32 y))
  (hnx : nl W32 x = la) (hny : nl W32 y = lb) (IH : ∀ p q, nl W32 p + nl W32 q < la + lb → ProdAt p q) :
  Calls Tryz.prog 189 #[.slice (some ⟨g, 0, none⟩) N N, .slice (some ⟨ba, oa, none⟩) la ca, .slice (some ⟨bb, ob, none⟩) lb cb] w fun e w' =>
   e = .returned (.tuple #[]) ∧ ∃ h, Cells w' .u64 g 0 N h ∧ U32 N h ∧ val W32 h N = ((x * y : Nat) : Int) ∧ Upd w w' g 0 N := by
 by_cases h : cb = (la + 1) / 2
 ·obtain ⟨H, hH⟩ : ∃ H, H = (la + 1) / 2 := ⟨_, rfl⟩
  have e1 : cb = H := by omega
  have e2 : lb = H := by omega
  clear h
  subst e1
  subst e2
  exact halves_tight g N ba oa la ca bb ob x y lb w hN hH h40 hl hlb2 h2 hca hout hs ha hb hnx hny IH
 ·exact halves_wide g N ba oa la ca bb ob lb cb x y _ w hN rfl h40 hl hlb2 h2 hca hcb h hout hs ha hb hnx hny IH

set_option maxRecDepth 20000 in
set_option maxHeartbeats 2000000 in
theorem product_wide (u v : Value) (x y : Nat) (w : World) (hu : Rep w u x) (hv : Rep w v y) (hle : nl W32 y ≤ nl W32 x) (h40 : 40 ≤ nl W32 y) (hlim : nl W32 x ≤ 400000)
  (IH : ∀ p q, nl W32 p + nl W32 q < nl W32 x + nl W32 y → ProdAt p q) :
  Calls Tryz.prog 151 #[u, v] w fun e w' => ∃ r, e = .returned r ∧ RepM w.heap.size w' r (x * y) ∧ Below w.heap.size w w' := by
 obtain ⟨i0, hi, hz0, hz1, hz2⟩ := info_parts info_u64
 have hv0 := hv
 obtain ⟨ao, c, rfl, hlc, hl, h4⟩ := hu
 obtain ⟨bo, d, rfl, hld, kl, k4⟩ := hv
 obtain ⟨b1, o1, rfl, hc⟩ := h4 (by omega)
 obtain ⟨b2, o2, rfl, kc⟩ := k4 (by omega)
 have hb1 := hc.lt (by omega)
 have hb2 := kc.lt (by omega)
 have hxl := lt_pow_nl W32 x (by decide)
 have hyl := lt_pow_nl W32 y (by decide)
 generalize hla : nl W32 x = la at *
 generalize hlb : nl W32 y = lb at *
 have HLA : Hid (nl W32 x = la) := hla
 have HLB : Hid (nl W32 y = lb) := hlb
 have HXL : Hid (x < W32 ^ la) := hxl
 have HYL : Hid (y < W32 ^ lb) := hyl
 have HIH : Hid (∀ p q, nl W32 p + nl W32 q < la + lb → ProdAt p q) := IH
 clear h4 k4 hla hlb hxl hyl IH
 have hnl : ¬ la < lb := by omega
 have hle2 : lb ≤ la := by omega
 have hne : ((lb : Int) == 0) = false := by simp; omega
 have h40' : ¬ (lb : Int) < 40 := by omega
 by_cases h2 : 2 * lb ≤ la
 ·have h2' : 2 * (lb : Int) ≤ (la : Int) := by omega
  go_enter Tryz.func151, Tryz.ntmps151
  go_wp2_with (at_make; refine wpList_make_full _ rfl _ _ 40 rfl _ 90 i0 (.int .u64 0) 1 Tryz.underlying40 hi hz0 hz1 _ _ _ _ (la + lb) rfl rfl (by omega) (by omega) (by rw [hz2]; omega) (by unfold maxLen; omega) (Nat.le_refl _) ?_; intro w1 hown hgrow)
  have hbl := below_grown hgrow
  obtain ⟨hc1, hs1⟩ := mine_made (k := .u64) (w := w) hown (fun _ => 0) (fun i hi => made_zero .u64 (la + lb) i hi)
  clear hown hgrow
  refine (pieces_any _ _ _ _ _ _ _ _ _ _ x y _ rfl (by omega) hlim hle2 hlc hc1 hs1 (hc.below hbl hb1) (hv0.below hbl) (by omega) HXL.out HYL.out (by omega) (fun p hp => HIH.out p y (by have := HLB.out; omega))).mono ?_
  rintro e w2 ⟨rfl, h, hch, huh, hvh, hupd⟩
  have hMine : Mine .u64 w.heap.size w2 (.slice (some ⟨w.heap.size, 0, none⟩) (la + lb) (la + lb)) (la + lb) h := ⟨_, _, rfl, Nat.le_refl _, by unfold LIM; omega, fun _ => ⟨_, _, rfl, hch, hs1.upd (hc1.lt (by omega)) hupd, Nat.le_refl _⟩⟩
  have hbel : Below w.heap.size w w2 := hbl.trans (hupd.below (Nat.le_refl _) hbl.size)
  clear hc1 hs1
  go_wp2_with (go_at_call 168; refine (cut_mine _ _ _ _ _ (x * y) hMine huh hvh).mono ?_; rintro e w3 ⟨r, rfl, hr, rfl⟩)
  go_ret
  exact ⟨_, rfl, hr, hbel⟩
 ·have h2' : ¬ 2 * (lb : Int) ≤ (la : Int) := by omega
  go_enter Tryz.func151, Tryz.ntmps151
  go_wp2_with (at_make; refine wpList_make_full _ rfl _ _ 40 rfl _ 90 i0 (.int .u64 0) 1 Tryz.underlying40 hi hz0 hz1 _ _ _ _ (la + lb) rfl rfl (by omega) (by omega) (by rw [hz2]; omega) (by unfold maxLen; omega) (Nat.le_refl _) ?_; intro w1 hown hgrow)
  have hbl := below_grown hgrow
  obtain ⟨hc1, hs1⟩ := mine_made (k := .u64) (w := w) hown (fun _ => 0) (fun i hi => made_zero .u64 (la + lb) i hi)
  clear hown hgrow
  refine (halves_any _ _ _ _ _ _ _ _ _ _ x y _ rfl h40 hlim hle2 (by omega) hlc hld hc1 hs1 (hc.below hbl hb1) (kc.below hbl hb2) HLA.out HLB.out HIH.out).mono ?_
  rintro e w2 ⟨rfl, h, hch, huh, hvh, hupd⟩
  have hMine : Mine .u64 w.heap.size w2 (.slice (some ⟨w.heap.size, 0, none⟩) (la + lb) (la + lb)) (la + lb) h := ⟨_, _, rfl, Nat.le_refl _, by unfold LIM; omega, fun _ => ⟨_, _, rfl, hch, hs1.upd (hc1.lt (by omega)) hupd, Nat.le_refl _⟩⟩
  have hbel : Below w.heap.size w w2 := hbl.trans (hupd.below (Nat.le_refl _) hbl.size)
  clear hc1 hs1
  go_wp2_with (go_at_call 168; refine (cut_mine _ _ _ _ _ (x * y) hMine huh hvh).mono ?_; rintro e w3 ⟨r, rfl, hr, rfl⟩)
  go_ret
  exact ⟨_, rfl, hr, hbel⟩

set_option maxRecDepth 20000 in
set_option maxHeartbeats 2000000 in
theorem product_swapped (u v : Value) (x y : Nat) (w : World) (hu : Rep w u x) (hv : Rep w v y) (hle : nl W32 y < nl W32 x) (h40 : 40 ≤ nl W32 y) (hlim : nl W32 x ≤ 400000)
  (IH : ∀ p q, nl W32 p + nl W32 q < nl W32 x + nl W32 y → ProdAt p q) :
  Calls Tryz.prog 151 #[v, u] w fun e w' => ∃ r, e = .returned r ∧ RepM w.heap.size w' r (x * y) ∧ Below w.heap.size w w' := by
 obtain ⟨i0, hi, hz0, hz1, hz2⟩ := info_parts info_u64
 have hv0 := hv
 obtain ⟨ao, c, rfl, hlc, hl, h4⟩ := hu
 obtain ⟨bo, d, rfl, hld, kl, k4⟩ := hv
 obtain ⟨b1, o1, rfl, hc⟩ := h4 (by omega)
 obtain ⟨b2, o2, rfl, kc⟩ := k4 (by omega)
 have hb1 := hc.lt (by omega)
 have hb2 := kc.lt (by omega)
 have hxl := lt_pow_nl W32 x (by decide)
 have hyl := lt_pow_nl W32 y (by decide)
 generalize hla : nl W32 x = la at *
 generalize hlb : nl W32 y = lb at *
 have HLA : Hid (nl W32 x = la) := hla
 have HLB : Hid (nl W32 y = lb) := hlb
 have HXL : Hid (x < W32 ^ la) := hxl
 have HYL : Hid (y < W32 ^ lb) := hyl
 have HIH : Hid (∀ p q, nl W32 p + nl W32 q < la + lb → ProdAt p q) := IH
 clear h4 k4 hla hlb hxl hyl IH
 have hnl : lb < la := by omega
 have hle2 : lb ≤ la := by omega
 have hne : ((lb : Int) == 0) = false := by simp; omega
 have h40' : ¬ (lb : Int) < 40 := by omega
 by_cases h2 : 2 * lb ≤ la
 ·have h2' : 2 * (lb : Int) ≤ (la : Int) := by omega
  go_enter Tryz.func151, Tryz.ntmps151
  go_wp2_with (at_make; refine wpList_make_full _ rfl _ _ 40 rfl _ 90 i0 (.int .u64 0) 1 Tryz.underlying40 hi hz0 hz1 _ _ _ _ (la + lb) rfl rfl (by omega) (by omega) (by rw [hz2]; omega) (by unfold maxLen; omega) (Nat.le_refl _) ?_; intro w1 hown hgrow)
  have hbl := below_grown hgrow
  obtain ⟨hc1, hs1⟩ := mine_made (k := .u64) (w := w) hown (fun _ => 0) (fun i hi => made_zero .u64 (la + lb) i hi)
  clear hown hgrow
  refine (pieces_any _ _ _ _ _ _ _ _ _ _ x y _ rfl (by omega) hlim hle2 hlc hc1 hs1 (hc.below hbl hb1) (hv0.below hbl) (by omega) HXL.out HYL.out (by omega) (fun p hp => HIH.out p y (by have := HLB.out; omega))).mono ?_
  rintro e w2 ⟨rfl, h, hch, huh, hvh, hupd⟩
  have hMine : Mine .u64 w.heap.size w2 (.slice (some ⟨w.heap.size, 0, none⟩) (la + lb) (la + lb)) (la + lb) h := ⟨_, _, rfl, Nat.le_refl _, by unfold LIM; omega, fun _ => ⟨_, _, rfl, hch, hs1.upd (hc1.lt (by omega)) hupd, Nat.le_refl _⟩⟩
  have hbel : Below w.heap.size w w2 := hbl.trans (hupd.below (Nat.le_refl _) hbl.size)
  clear hc1 hs1
  go_wp2_with (go_at_call 168; refine (cut_mine _ _ _ _ _ (x * y) hMine huh hvh).mono ?_; rintro e w3 ⟨r, rfl, hr, rfl⟩)
  go_ret
  exact ⟨_, rfl, hr, hbel⟩
 ·have h2' : ¬ 2 * (lb : Int) ≤ (la : Int) := by omega
  go_enter Tryz.func151, Tryz.ntmps151
  go_wp2_with (at_make; refine wpList_make_full _ rfl _ _ 40 rfl _ 90 i0 (.int .u64 0) 1 Tryz.underlying40 hi hz0 hz1 _ _ _ _ (la + lb) rfl rfl (by omega) (by omega) (by rw [hz2]; omega) (by unfold maxLen; omega) (Nat.le_refl _) ?_; intro w1 hown hgrow)
  have hbl := below_grown hgrow
  obtain ⟨hc1, hs1⟩ := mine_made (k := .u64) (w := w) hown (fun _ => 0) (fun i hi => made_zero .u64 (la + lb) i hi)
  clear hown hgrow
  refine (halves_any _ _ _ _ _ _ _ _ _ _ x y _ rfl h40 hlim hle2 (by omega) hlc hld hc1 hs1 (hc.below hbl hb1) (kc.below hbl hb2) HLA.out HLB.out HIH.out).mono ?_
  rintro e w2 ⟨rfl, h, hch, huh, hvh, hupd⟩
  have hMine : Mine .u64 w.heap.size w2 (.slice (some ⟨w.heap.size, 0, none⟩) (la + lb) (la + lb)) (la + lb) h := ⟨_, _, rfl, Nat.le_refl _, by unfold LIM; omega, fun _ => ⟨_, _, rfl, hch, hs1.upd (hc1.lt (by omega)) hupd, Nat.le_refl _⟩⟩
  have hbel : Below w.heap.size w w2 := hbl.trans (hupd.below (Nat.le_refl _) hbl.size)
  clear hc1 hs1
  go_wp2_with (go_at_call 168; refine (cut_mine _ _ _ _ _ (x * y) hMine huh hvh).mono ?_; rintro e w3 ⟨r, rfl, hr, rfl⟩)
  go_ret
  exact ⟨_, rfl, hr, hbel⟩

theorem product_upto : ∀ s x y, nl W32 x + nl W32 y = s → s ≤ 400000 → ProdAt x y := by
 intro s
 induction s using Nat.strongRecOn with
 | ind s ih =>
  intro x y hs hl u v w hu hv
  have IH : ∀ p q, nl W32 p + nl W32 q < nl W32 x + nl W32 y → ProdAt p q := fun p q h => ih _ (by omega) p q rfl (by omega)
  by_cases h40 : nl W32 x < 40 ∨ nl W32 y < 40
  ·exact product_any u v x y w hu hv h40 (by omega) (by omega)
  ·by_cases h : nl W32 x < nl W32 y
   ·rw [Nat.mul_comm]
    exact product_swapped v u y x w hv hu h (by omega) (by omega) (fun p q hpq => IH p q (by omega))
   ·exact product_wide u v x y w hu hv (by omega) (by omega) (by omega) IH

/-- nat.product of any two numbers. -/
theorem product_all (x y : Nat) (h : nl W32 x + nl W32 y ≤ 400000) : ProdAt x y := product_upto _ x y rfl h

set_option maxRecDepth 20000 in
set_option maxHeartbeats 400000 in
theorem less_any (u v : Value) (n m : Nat) (f g : Nat → Int) (w : World) (hu : Nums .u64 w u n f) (hv : Nums .u64 w v m g) (hf : U64 n f) (hg : U64 m g) (h : num g m ≤ num f n) :
  Calls Tryz.prog 149 #[u, v] w fun e w' => ∃ r, e = .returned r ∧ RepM w.heap.size w' r (num f n - num g m) ∧ Below w.heap.size w w' := by
 go_enter Tryz.func149, Tryz.ntmps149
 go_wp2_with fail
 refine (sub_ok _ _ _ _ _ _ _ hu hv hf hg h).mono ?_
 rintro e w1 ⟨r, rfl, hr, hb⟩
 go_wp2
 go_ret
 exact ⟨_, rfl, hr, hb⟩

/-- The two cells of a whole number that came in, laid in a variable. -/
theorem box_a (w : World) (t t' t'' : TypeId) (p q p' q' x y : Value) :
  (((w.alloc (.cells #[p, q] t)).alloc (.cells #[p', q'] t')).alloc (.cells #[x, y] t'')).cell? ⟨w.heap.size, 0, none⟩ = some p ∧
  (((w.alloc (.cells #[p, q] t)).alloc (.cells #[p', q'] t')).alloc (.cells #[x, y] t'')).cell? ⟨w.heap.size, 1, none⟩ = some q ∧
  (((w.alloc (.cells #[p, q] t)).alloc (.cells #[p', q'] t')).alloc (.cells #[x, y] t'')).cell? ⟨w.heap.size + 1, 0, none⟩ = some p' ∧
  (((w.alloc (.cells #[p, q] t)).alloc (.cells #[p', q'] t')).alloc (.cells #[x, y] t'')).cell? ⟨w.heap.size + 1, 1, none⟩ = some q' := by
 have h0 := resW w t p q
 have h1 := res1 w (.cells #[p, q] t) t' p' q'
 have b1 : Below (w.heap.size + 1) (w.alloc (.cells #[p, q] t)) (((w.alloc (.cells #[p, q] t)).alloc (.cells #[p', q'] t')).alloc (.cells #[x, y] t'')) :=
  ((Below.refl _ _).alloc (by simp) _).alloc (by simp) _
 have b2 : Below (w.heap.size + 1 + 1) ((w.alloc (.cells #[p, q] t)).alloc (.cells #[p', q'] t')) (((w.alloc (.cells #[p, q] t)).alloc (.cells #[p', q'] t')).alloc (.cells #[x, y] t'')) :=
  (Below.refl _ _).alloc (by simp) _
 have k0 := keep2 b1 (by simp) ⟨h0.1, h0.2.1⟩
 have k1 := keep2 b2 (by simp) ⟨h1.1, h1.2.1⟩
 exact ⟨k0.1, k0.2, k1.1, k1.2⟩

set_option maxRecDepth 20000 in
set_option maxHeartbeats 2000000 in
theorem wadd_same (p : Bool) (ao : Option Addr) (n c : Nat) (f : Nat → Int) (bo : Option Addr) (m d : Nat) (g : Nat → Int) (w : World)
  (hu : Nums .u64 w (.slice ao n c) n f) (hf : U64 n f) (hv : Nums .u64 w (.slice bo m d) m g) (hg : U64 m g) (hn : n ≤ 1000000) (hm : m ≤ 1000000) :
  Calls Tryz.prog 98 #[.agg #[.bool p, .slice ao n c], .agg #[.bool p, .slice bo m d]] w fun e w' => ∃ r, e = .returned r ∧ RepI w' r (zof p (num f n + num g m)) ∧ Below w.heap.size w w' := by
 have hA : ∀ o o' o'', Below w.heap.size w (((w.alloc o).alloc o').alloc o'') := fun o o' o'' => (((Below.refl _ _).alloc (Nat.le_refl _) _).alloc (by simp) _).alloc (by simp; omega) _
 have ne1 : ¬ w.heap.size = w.heap.size + 1 + 1 := by omega
 have ne2 : ¬ w.heap.size + 1 + 1 = w.heap.size := by omega
 obtain ⟨c1, c2, c3, c4⟩ := box_a w 42 42 42 (.bool p) (.slice ao n c) (.bool p) (.slice bo m d) (.bool false) (.slice none 0 0)
 go_enter Tryz.func98, Tryz.ntmps98
 go_wp2
 go_region_held3 (fun w' => w'.cell? ⟨w.heap.size, 0, none⟩ = some (.bool p) ∧ w'.cell? ⟨w.heap.size, 1, none⟩ = some (.slice ao n c) ∧ w'.cell? ⟨w.heap.size + 1, 0, none⟩ = some (.bool p) ∧ w'.cell? ⟨w.heap.size + 1, 1, none⟩ = some (.slice bo m d)) (first | exact keep4 (by assumption) (by simp) (by assumption) | go_keep) (first
  | (go_at_call 140; refine (add_any _ _ _ _ _ _ _ (hu.below (hA _ _ _).drew) (hv.below (hA _ _ _).drew) hf hg hn hm).mono ?_; rintro e w1 ⟨s, rfl, hs, hb1⟩; have hk1 := keepW hb1 (by simp) (res2 w _ _ _ _ _))
  | (go_at_call 148; refine (signed_any _ _ _ _ hs.nums).mono ?_; rintro e w2 ⟨r, rfl, hr, hb2⟩; obtain ⟨b2, ao2, n2, c2, rfl⟩ := hr.open; obtain ⟨q1, q2, q3, q4⟩ := keepW hb2 (Nat.le_refl _) hk1))
 go_wp2
 (try simp only [Exit.inBlock, Exit.then])
 refine bodyPost_ret (v := .agg #[.bool b2, .slice ao2 n2 c2]) (by simp [results, go_sem, q1, q2]) rfl ?_
 have B1 := (hA _ _ _).drew.trans (hb1.mono (by simp; omega))
 have B2 := B1.trans (hb2.mono B1.size)
 exact ⟨_, rfl, hr.store2 q1 q2 _ _, below_store2 B2 (by omega) _ _⟩

set_option maxRecDepth 20000 in
set_option maxHeartbeats 2000000 in
theorem wadd_lt (p : Bool) (ao : Option Addr) (n c : Nat) (f : Nat → Int) (bo : Option Addr) (m d : Nat) (g : Nat → Int) (w : World)
  (hu : Nums .u64 w (.slice ao n c) n f) (hf : U64 n f) (hv : Nums .u64 w (.slice bo m d) m g) (hg : U64 m g) (hc0 : num f n < num g m) :
  Calls Tryz.prog 98 #[.agg #[.bool p, .slice ao n c], .agg #[.bool (!p), .slice bo m d]] w fun e w' => ∃ r, e = .returned r ∧ RepI w' r (zof (!p) (num g m - num f n)) ∧ Below w.heap.size w w' := by
 have hA : ∀ o o' o'', Below w.heap.size w (((w.alloc o).alloc o').alloc o'') := fun o o' o'' => (((Below.refl _ _).alloc (Nat.le_refl _) _).alloc (by simp) _).alloc (by simp; omega) _
 have ne1 : ¬ w.heap.size = w.heap.size + 1 + 1 := by omega
 have ne2 : ¬ w.heap.size + 1 + 1 = w.heap.size := by omega
 obtain ⟨c1, c2, c3, c4⟩ := box_a w 42 42 42 (.bool p) (.slice ao n c) (.bool (!p)) (.slice bo m d) (.bool false) (.slice none 0 0)
 have hpq : (p == !p) = false := by cases p <;> rfl
 have hc : cmpI (num f n) (num g m) < 0 := by rw [cmpI_lt (by omega)]; omega
 generalize hq : (!p) = q at *
 go_enter Tryz.func98, Tryz.ntmps98
 go_wp2_with fail
 refine (cmp_any _ _ _ _ _ _ _ (hu.below (hA _ _ _)) (hv.below (hA _ _ _)) hf hg).mono ?_
 rintro e w0 ⟨rfl, hb0⟩
 have hk0 := keepW hb0 (by simp) (res2 w _ _ _ _ _)
 obtain ⟨d1, d2, d3, d4⟩ := keep4 hb0 (by simp) ⟨c1, c2, c3, c4⟩
 have B0 : Below w.heap.size w w0 := (hA _ _ _).trans (hb0.mono (by simp; omega))
 clear c1 c2 c3 c4 hq
 generalize cmpI (num f n) (num g m) = C at *
 go_wp2
 go_region_held3 (fun w' => w'.cell? ⟨w.heap.size, 0, none⟩ = some (.bool p) ∧ w'.cell? ⟨w.heap.size, 1, none⟩ = some (.slice ao n c) ∧ w'.cell? ⟨w.heap.size + 1, 0, none⟩ = some (.bool q) ∧ w'.cell? ⟨w.heap.size + 1, 1, none⟩ = some (.slice bo m d)) (first | exact keep4 (by assumption) (by simp) (by assumption) | go_keep) (first
  | (go_at_call 149; refine (less_any _ _ _ _ _ _ _ (hv.below B0.drew) (hu.below B0.drew) hg hf (by omega)).mono ?_; rintro e w1 ⟨s, rfl, hs, hb1⟩; have hk1 := keepW hb1 (Nat.le_refl _) hk0)
  | (go_at_call 148; refine (signed_any _ _ _ _ hs.nums).mono ?_; rintro e w2 ⟨r, rfl, hr, hb2⟩; obtain ⟨b2, ao2, n2, c2, rfl⟩ := hr.open; obtain ⟨q1, q2, q3, q4⟩ := keepW hb2 (Nat.le_refl _) hk1))
 go_wp2
 (try simp only [Exit.inBlock, Exit.then])
 refine bodyPost_ret (v := .agg #[.bool b2, .slice ao2 n2 c2]) (by simp [results, go_sem, q1, q2]) rfl ?_
 have B1 := B0.drew.trans (hb1.mono B0.size)
 have B2 := B1.trans (hb2.mono B1.size)
 exact ⟨_, rfl, hr.store2 q1 q2 _ _, below_store2 B2 (by omega) _ _⟩

set_option maxRecDepth 20000 in
set_option maxHeartbeats 2000000 in
theorem wadd_ge (p : Bool) (ao : Option Addr) (n c : Nat) (f : Nat → Int) (bo : Option Addr) (m d : Nat) (g : Nat → Int) (w : World)
  (hu : Nums .u64 w (.slice ao n c) n f) (hf : U64 n f) (hv : Nums .u64 w (.slice bo m d) m g) (hg : U64 m g) (hc0 : num g m ≤ num f n) :
  Calls Tryz.prog 98 #[.agg #[.bool p, .slice ao n c], .agg #[.bool (!p), .slice bo m d]] w fun e w' => ∃ r, e = .returned r ∧ RepI w' r (zof p (num f n - num g m)) ∧ Below w.heap.size w w' := by
 have hA : ∀ o o' o'', Below w.heap.size w (((w.alloc o).alloc o').alloc o'') := fun o o' o'' => (((Below.refl _ _).alloc (Nat.le_refl _) _).alloc (by simp) _).alloc (by simp; omega) _
 have ne1 : ¬ w.heap.size = w.heap.size + 1 + 1 := by omega
 have ne2 : ¬ w.heap.size + 1 + 1 = w.heap.size := by omega
 obtain ⟨c1, c2, c3, c4⟩ := box_a w 42 42 42 (.bool p) (.slice ao n c) (.bool (!p)) (.slice bo m d) (.bool false) (.slice none 0 0)
 have hpq : (p == !p) = false := by cases p <;> rfl
 have hc : ¬ cmpI (num f n) (num g m) < 0 := by unfold cmpI; rw [if_neg (by omega)]; split <;> omega
 generalize hq : (!p) = q at *
 go_enter Tryz.func98, Tryz.ntmps98
 go_wp2_with fail
 refine (cmp_any _ _ _ _ _ _ _ (hu.below (hA _ _ _)) (hv.below (hA _ _ _)) hf hg).mono ?_
 rintro e w0 ⟨rfl, hb0⟩
 have hk0 := keepW hb0 (by simp) (res2 w _ _ _ _ _)
 obtain ⟨d1, d2, d3, d4⟩ := keep4 hb0 (by simp) ⟨c1, c2, c3, c4⟩
 have B0 : Below w.heap.size w w0 := (hA _ _ _).trans (hb0.mono (by simp; omega))
 clear c1 c2 c3 c4 hq
 generalize cmpI (num f n) (num g m) = C at *
 go_wp2
 go_region_held3 (fun w' => w'.cell? ⟨w.heap.size, 0, none⟩ = some (.bool p) ∧ w'.cell? ⟨w.heap.size, 1, none⟩ = some (.slice ao n c) ∧ w'.cell? ⟨w.heap.size + 1, 0, none⟩ = some (.bool q) ∧ w'.cell? ⟨w.heap.size + 1, 1, none⟩ = some (.slice bo m d)) (first | exact keep4 (by assumption) (by simp) (by assumption) | go_keep) (first
  | (go_at_call 149; refine (less_any _ _ _ _ _ _ _ (hu.below B0.drew) (hv.below B0.drew) hf hg (by omega)).mono ?_; rintro e w1 ⟨s, rfl, hs, hb1⟩; have hk1 := keepW hb1 (Nat.le_refl _) hk0)
  | (go_at_call 148; refine (signed_any _ _ _ _ hs.nums).mono ?_; rintro e w2 ⟨r, rfl, hr, hb2⟩; obtain ⟨b2, ao2, n2, c2, rfl⟩ := hr.open; obtain ⟨q1, q2, q3, q4⟩ := keepW hb2 (Nat.le_refl _) hk1))
 go_wp2
 (try simp only [Exit.inBlock, Exit.then])
 refine bodyPost_ret (v := .agg #[.bool b2, .slice ao2 n2 c2]) (by simp [results, go_sem, q1, q2]) rfl ?_
 have B1 := B0.drew.trans (hb1.mono B0.size)
 have B2 := B1.trans (hb2.mono B1.size)
 exact ⟨_, rfl, hr.store2 q1 q2 _ _, below_store2 B2 (by omega) _ _⟩

theorem zof_add (p : Bool) (x y : Nat) : zof p (x + y) = zof p x + zof p y := by cases p <;> simp [zof] <;> omega
theorem zof_less (p : Bool) (x y : Nat) (h : y ≤ x) : zof p (x - y) = zof p x + zof (!p) y := by cases p <;> simp [zof] <;> omega

theorem wadd_any (u v : Value) (x y : Int) (L M : Nat) (w : World) (hu : IntAt w u x L) (hv : IntAt w v y M) (hL : L ≤ 1000000) (hM : M ≤ 1000000) :
  Calls Tryz.prog 98 #[u, v] w fun e w' => ∃ r, e = .returned r ∧ RepI w' r (x + y) ∧ Below w.heap.size w w' := by
 obtain ⟨p, ao, n, c, f, rfl, hu, hf, rfl, hn⟩ := hu
 obtain ⟨q, bo, m, d, g, rfl, hv, hg, rfl, hm⟩ := hv
 by_cases hpq : p = q
 ·subst hpq
  rw [← zof_add]
  exact wadd_same p ao n c f bo m d g w hu hf hv hg (by omega) (by omega)
 ·obtain rfl : q = !p := by cases p <;> cases q <;> simp_all
  by_cases hlt : num f n < num g m
  ·rw [Int.add_comm, ← Bool.not_not p, Bool.not_not (!p), ← zof_less _ _ _ (by omega), Bool.not_not p]
   exact wadd_lt p ao n c f bo m d g w hu hf hv hg hlt
  ·rw [← zof_less _ _ _ (by omega)]
   exact wadd_ge p ao n c f bo m d g w hu hf hv hg (by omega)

set_option maxRecDepth 20000 in
set_option maxHeartbeats 400000 in
theorem mul_wide (u v : Value) (n m : Nat) (f g : Nat → Int) (w : World) (hu : Nums .u64 w u n f) (hv : Nums .u64 w v m g) (hf : U64 n f) (hg : U64 m g) (hnm : n + m ≤ 400000) :
  Calls Tryz.prog 100 #[u, v] w fun e w' => ∃ r, e = .returned r ∧ RepM w.heap.size w' r (num f n * num g m) ∧ Below w.heap.size w w' := by
 have hx := nl_le W32 (num f n) n (by decide) (num_lt f n)
 have hy := nl_le W32 (num g m) m (by decide) (num_lt g m)
 go_enter Tryz.func100, Tryz.ntmps100
 go_wp2_with fail
 refine (plain_any _ _ _ _ hu hf).mono ?_
 rintro e w1 ⟨r1, rfl, hr1, hb1⟩
 go_wp2_with fail
 refine (plain_any _ _ _ _ (hv.below hb1) hg).mono ?_
 rintro e w2 ⟨r2, rfl, hr2, hb2⟩
 go_wp2_with fail
 refine (product_all _ _ (by omega) _ _ _ (Nums.below hr1 hb2) hr2).mono ?_
 rintro e w3 ⟨r, rfl, hr, hb3⟩
 go_wp2
 go_ret
 have := hb1.size
 have := hb2.size
 exact ⟨_, rfl, hr.le (by omega), hb1.trans ((hb2.mono (by omega)).trans (hb3.mono (by omega)))⟩

theorem zof_mul (p q : Bool) (x y : Nat) : zof (!(p == q)) (x * y) = zof p x * zof q y := by
 cases p <;> cases q <;> simp [zof, Int.mul_neg, Int.neg_mul]

set_option maxRecDepth 20000 in
set_option maxHeartbeats 2000000 in
theorem wmul_any (u v : Value) (x y : Int) (L M : Nat) (w : World) (hu : IntAt w u x L) (hv : IntAt w v y M) (hLM : L + M ≤ 400000) :
  Calls Tryz.prog 150 #[u, v] w fun e w' => ∃ r, e = .returned r ∧ RepI w' r (x * y) ∧ Below w.heap.size w w' := by
 obtain ⟨p, ao, n, c, f, rfl, hu, hf, rfl, hn⟩ := hu
 obtain ⟨q, bo, m, d, g, rfl, hv, hg, rfl, hm⟩ := hv
 have hA : ∀ o o' o'', Below w.heap.size w (((w.alloc o).alloc o').alloc o'') := fun o o' o'' => (((Below.refl _ _).alloc (Nat.le_refl _) _).alloc (by simp) _).alloc (by simp; omega) _
 have ne1 : ¬ w.heap.size = w.heap.size + 1 + 1 := by omega
 have ne2 : ¬ w.heap.size + 1 + 1 = w.heap.size := by omega
 obtain ⟨c1, c2, c3, c4⟩ := box_a w 42 42 42 (.bool p) (.slice ao n c) (.bool q) (.slice bo m d) (.bool false) (.slice none 0 0)
 go_enter Tryz.func150, Tryz.ntmps150
 go_wp2
 go_region_held3 (fun w' => w'.cell? ⟨w.heap.size, 0, none⟩ = some (.bool p) ∧ w'.cell? ⟨w.heap.size, 1, none⟩ = some (.slice ao n c) ∧ w'.cell? ⟨w.heap.size + 1, 0, none⟩ = some (.bool q) ∧ w'.cell? ⟨w.heap.size + 1, 1, none⟩ = some (.slice bo m d)) (first | exact keep4 (by assumption) (by simp) (by assumption) | go_keep) (first
  | (go_at_call 100; refine (mul_wide _ _ _ _ _ _ _ (hu.below (hA _ _ _).drew) (hv.below (hA _ _ _).drew) hf hg (by omega)).mono ?_; rintro e w1 ⟨s, rfl, hs, hb1⟩; have hk1 := keepW hb1 (by simp) (res2 w _ _ _ _ _))
  | (go_at_call 148; refine (signed_any _ _ _ _ hs.nums).mono ?_; rintro e w2 ⟨r, rfl, hr, hb2⟩; obtain ⟨b2, ao2, n2, c2, rfl⟩ := hr.open; obtain ⟨q1, q2, q3, q4⟩ := keepW hb2 (Nat.le_refl _) hk1))
 go_wp2
 (try simp only [Exit.inBlock, Exit.then])
 refine bodyPost_ret (v := .agg #[.bool b2, .slice ao2 n2 c2]) (by simp [results, go_sem, q1, q2]) rfl ?_
 have B1 := (hA _ _ _).drew.trans (hb1.mono (by simp; omega))
 have B2 := B1.trans (hb2.mono B1.size)
 rw [zof_mul] at hr
 exact ⟨_, rfl, hr.store2 q1 q2 _ _, below_store2 B2 (by omega) _ _⟩

set_option maxRecDepth 20000 in
set_option maxHeartbeats 1000000 in
theorem divide_long (u v : Value) (x y : Nat) (w : World) (hu : Rep w u x) (hv : Rep w v y) (h : y ≤ x) (h2 : 2 < nl W32 x) (hy1 : 2 ≤ nl W32 y) (hlx : nl W32 x ≤ 999999) :
  Calls Tryz.prog 119 #[u, v] w fun e w' => ∃ q r, e = .returned (.tuple #[q, r]) ∧ RepM w.heap.size w' q (x / y) ∧ RepM w.heap.size w' r (x % y) ∧ Below w.heap.size w w' := by
 have hc : ¬ cmpI x y < 0 := by unfold cmpI; rw [if_neg (by omega)]; split <;> omega
 have hle : nl W32 y ≤ nl W32 x := by
  by_cases g : nl W32 x < nl W32 y
  ·have := lt_of_nl W32 x y (by decide) g; omega
  ·omega
 obtain ⟨m, hm⟩ : ∃ m, nl W32 y = m + 2 := ⟨nl W32 y - 2, by omega⟩
 have hu0 := hu
 have hv0 := hv
 obtain ⟨ao, c, rfl, hl⟩ := rep_val hu0
 obtain ⟨bo, d, rfl, kl⟩ := rep_val hv0
 clear hu0 hv0
 have HD : Hid (nl W32 y = m + 2) := hm
 have HL : Hid (m + 2 ≤ nl W32 x) := by show _ ≤ _; omega
 have HX : Hid (nl W32 x ≤ 999999) := hlx
 have HC : Hid (∀ w1 : World, Rep w1 (.slice ao (nl W32 x) c) x → Rep w1 (.slice bo (nl W32 y) d) y → Calls Tryz.prog 169 #[.slice ao (nl W32 x) c, .slice bo (nl W32 y) d] w1 fun e w' => ∃ q r, e = .returned (.tuple #[q, r]) ∧ RepM w1.heap.size w' q (x / y) ∧ RepM w1.heap.size w' r (x % y) ∧ Below w1.heap.size w1 w') := fun w1 hu hv => divLong_any _ _ x y m w1 hu hv HL.out HD.out HX.out
 clear HD HL HX hm
 generalize nl W32 x = la at *
 generalize nl W32 y = lb at *
 go_enter Tryz.func119, Tryz.ntmps119
 go_wp2_with fail
 refine (cmp_rep _ _ _ _ _ hu hv).mono ?_
 rintro e w1 ⟨rfl, hb1⟩
 have s1 := hb1.size
 have n1 : ¬ (la : Int) ≤ 2 := by omega
 have n2 : ((lb : Int) == 1) = false := by simp; omega
 go_wp2_with fail
 refine (HC.out _ (Nums.below hu hb1) (Nums.below hv hb1)).mono ?_
 rintro e w2 ⟨q, r, rfl, hq, hr, hb2⟩
 go_wp2
 go_ret2
 exact ⟨_, _, rfl, hq.le s1, hr.le s1, hb1.trans (hb2.mono s1)⟩

theorem divide_any (x y : Nat) (hy : 0 < y) (hx : nl W32 x ≤ 999999) : DivideOk x y := by
 intro u v w hu hv
 have hny : 0 < nl W32 y := by
  rcases Nat.eq_zero_or_pos (nl W32 y) with e | e
  ·have := (nl_eq_zero W32 y (by decide)).1 e; omega
  ·exact e
 by_cases h : x < y
 ·exact divide_less u v x y w hu hv h
 ·by_cases h2 : nl W32 x ≤ 2
  ·exact divide_small u v x y w hu hv hy (by omega) h2
  ·by_cases h3 : nl W32 y = 1
   ·exact divide_limb u v x y w hu hv (by omega) (by omega) h3
   ·exact divide_long u v x y w hu hv (by omega) (by omega) (by omega) hx

end Go.Proofs.YthkamfddbiheoaaGreatDoor
