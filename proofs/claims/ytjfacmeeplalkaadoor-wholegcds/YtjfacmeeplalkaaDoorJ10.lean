/-
  Texts of mine, joined: what lies beneath the statement.
-/
import Derived.Test.YtjfacmeeplalkaaDoorJ9
import Derived.Laws.ShiftsVarLaws
import Derived.Deep.RegionHeld3
/-
  What nat.shiftUp and shiftDown answer: a number times, and divided by, a power of two.
-/
namespace Go.Proofs.YtjfacmeeplalkaaDoor
open Go.RowKit

theorem W32c : ((W32 : Nat) : Int) = 4294967296 := rfl
/-- A limb shifted by fewer than 32 bits joins what was carried into it. -/
theorem or_shift (s : Nat) (hs : s < 32) (c x : Int) (hc0 : 0 ≤ c) (hc1 : c < 2 ^ s) (hx0 : 0 ≤ x) (hx1 : x < 4294967296) :
    bits .or .u64 c (IntKind.u64.wrap (x * 2 ^ s)) = c + x * 2 ^ s ∧ 0 ≤ c + x * 2 ^ s ∧ c + x * 2 ^ s < 4294967296 * 2 ^ s ∧ c + x * 2 ^ s < 18446744073709551616 := by
  obtain ⟨x, rfl⟩ := Int.eq_ofNat_of_zero_le hx0
  have hp : (0 : Int) < 2 ^ s := by
    have : 0 < 2 ^ s := Nat.two_pow_pos s
    have e : ((2 ^ s : Nat) : Int) = (2 : Int) ^ s := by simp
    omega
  have hple : (2 : Int) ^ s ≤ 4294967296 := by
    have : 2 ^ s ≤ 2 ^ 32 := Nat.pow_le_pow_right (by omega) (by omega)
    have e : ((2 ^ s : Nat) : Int) = (2 : Int) ^ s := by simp
    omega
  have h1 : (x : Int) * 2 ^ s ≤ 4294967295 * 2 ^ s := Int.mul_le_mul_of_nonneg_right (by omega) (by omega)
  have h0 : 0 ≤ (x : Int) * 2 ^ s := Int.mul_nonneg hx0 (by omega)
  have h2 : (4294967296 : Int) * 2 ^ s = 4294967295 * 2 ^ s + 2 ^ s := by omega
  have h3 : (4294967296 : Int) * 2 ^ s ≤ 4294967296 * 4294967296 := Int.mul_le_mul_of_nonneg_left hple (by omega)
  refine ⟨?_, by omega, by omega, by omega⟩
  rw [IntWalk.u64_in _ ⟨h0, by omega⟩, u64_or c ((x : Int) * 2 ^ s) hc0 (by omega) h0 (by omega), Nat.or_comm]
  have e : ((x : Int) * 2 ^ s).toNat = x * 2 ^ s := by
    have e1 : (x : Int) * 2 ^ s = ((x * 2 ^ s : Nat) : Int) := by simp
    rw [e1]; rfl
  rw [nat_join s ((x : Int) * 2 ^ s).toNat c.toNat (by rw [e]; exact Nat.mul_mod_left _ _) (by
    have e2 : ((2 ^ s : Nat) : Int) = (2 : Int) ^ s := by simp
    omega)]
  omega

theorem shift_step (B : Nat) (h f : Nat → Int) (N wh i : Nat) (c p t : Int) (hi : wh + i < N) (ht : t - h (wh + i) = c + f i * p) (hv : val B h N + c * (B : Int) ^ (wh + i) = val B f i * p * (B : Int) ^ wh) :
    val B (put h (wh + i) (t % B)) N + t / B * (B : Int) ^ (wh + (i + 1)) = val B f (i + 1) * p * (B : Int) ^ wh := by
  have e1 : (B : Int) ^ (wh + (i + 1)) = (B : Int) ^ (wh + i) * B := by rw [← Nat.add_assoc, Int.pow_succ]
  rw [val_put B h N (wh + i) _ hi, e1, carry_step, ht]
  simp only [val]
  rw [Int.add_mul, ← Int.add_assoc, hv, Int.add_mul, Int.add_mul]
  have e2 : f i * p * (B : Int) ^ (wh + i) = f i * (B : Int) ^ i * p * (B : Int) ^ wh := by
    rw [Nat.add_comm wh i, Int.pow_add, ← Int.mul_assoc, Int.mul_assoc (f i) p, Int.mul_comm p, ← Int.mul_assoc]
  rw [e2]

set_option maxRecDepth 20000 in
set_option maxHeartbeats 2000000 in
theorem shiftUp_pos (v : Value) (x n : Nat) (w : World) (hv : Rep w v x) (hx : x ≠ 0) (hlx : nl W32 x ≤ 1000000) (hn : n ≤ 1048576) :
    Calls Tryd.prog 76 #[v, .int .i64 (n : Int)] w fun e w' => ∃ r, e = .returned r ∧ RepM w.heap.size w' r (x * 2 ^ n) ∧ Below w.heap.size w w' := by
  obtain ⟨i0, hi, hz0, hz1, hz2⟩ := info_parts info_u64
  obtain ⟨ao, c, rfl, hnc, hl, h4⟩ := hv
  have hl0 : 0 < nl W32 x := by
    rcases Nat.eq_zero_or_pos (nl W32 x) with e | e
    · exact absurd ((nl_eq_zero W32 x (by decide)).1 e) hx
    · exact e
  have VX : Hid (val W32 (dg W32 x) (nl W32 x) = (x : Int)) := val_nl W32 x (by decide)
  have UX := u32_dg x (nl W32 x)
  obtain ⟨b, off, rfl, hc⟩ := h4 hl0
  clear h4
  generalize nl W32 x = la at *
  have hblt := hc.lt hl0
  have hne : ((la : Int) == 0) = false := by simp; omega
  obtain ⟨wh, hwh⟩ : ∃ wh, wh = n / 32 := ⟨_, rfl⟩
  obtain ⟨s, hs⟩ : ∃ s, s = n % 32 := ⟨_, rfl⟩
  have hs32 : s < 32 := by omega
  have hwb : wh ≤ 32768 := by omega
  have HN : Hid (n = 32 * wh + s) := by show n = _; omega
  have d1 : ((n : Int) / 32) = (wh : Int) := by omega
  have d2 : ((n : Int) % 32) = (s : Int) := by omega
  clear hwh hs
  go_enter Tryd.func76, Tryd.ntmps76
  go_wp2_with (at_make; refine wpList_make_full _ rfl _ _ 23 rfl _ 59 i0 (.int .u64 0) 1 Tryd.underlying23 hi hz0 hz1 _ _ _ _ (la + wh + 1) rfl rfl (by omega) (by omega) (by rw [hz2]; omega) (by unfold maxLen; omega) (Nat.le_refl _) ?_; intro w1 hown hgrow)
  have hbl := below_grown hgrow
  obtain ⟨hc1, hs1⟩ := mine_made (k := .u64) (w := w) hown (fun _ => 0) (fun i hi => made_zero .u64 (la + wh + 1) i hi)
  clear hown hgrow
  have hsz := hbl.size
  go_loopw [8, 26] (fun vc vi wr => ∃ (i : Nat) (cr : Int) (h : Nat → Int), i ≤ la ∧ vc = .int .u64 cr ∧ vi = .int .i64 (i : Int) ∧ 0 ≤ cr ∧ cr < 2 ^ s ∧ Cells wr .u64 w.heap.size 0 (la + wh + 1) h ∧ U32 (la + wh + 1) h ∧ (∀ p, wh + i ≤ p → h p = 0) ∧
      val W32 h (la + wh + 1) + cr * (W32 : Int) ^ (wh + i) = val W32 (dg W32 x) i * 2 ^ s * (W32 : Int) ^ wh ∧ Soft wr w.heap.size 0 (la + wh + 1) ∧ Below w.heap.size w wr) (fun _ vi _ => la - (intOf vi).toNat)
  case atStart =>
    refine ⟨0, 0, fun _ => 0, Nat.zero_le _, rfl, rfl, Int.le_refl _, ?_, hc1, fun _ _ => ⟨Int.le_refl _, (by decide : (0 : Int) < (W32 : Int))⟩, fun _ _ => rfl, by rw [val_zero _ (fun _ _ => rfl)]; simp [val], hs1, hbl⟩
    have : 0 < 2 ^ s := Nat.two_pow_pos s
    have e : ((2 ^ s : Nat) : Int) = (2 : Int) ^ s := by simp
    omega
  case round =>
    obtain ⟨i, cr, h, hi', rfl, rfl, hc0, hcr, hch, hu, hz, hv, hsf, hbel⟩ := hrel
    have HV : Hid (val W32 h (la + wh + 1) + cr * (W32 : Int) ^ (wh + i) = val W32 (dg W32 x) i * 2 ^ s * (W32 : Int) ^ wh) := hv
    have HZ : Hid (∀ p, wh + i ≤ p → h p = 0) := hz
    clear hv hz
    have hs2 := hbel.size
    by_cases hlt : i < la
    · have hca := (hc.below hbel hblt) i hlt
      have hcg : wr.cell? ⟨w.heap.size, wh + i, none⟩ = some (.int .u64 (h (wh + i))) := by have := hch (wh + i) (by omega); rw [Nat.zero_add] at this; exact this
      have hfr : wr.frozen? ⟨w.heap.size, wh + i, none⟩ = false := by have := hsf (wh + i) (by omega); rw [Nat.zero_add] at this; exact this
      have bx := UX i hlt
      unfold W32 at bx
      obtain ⟨ho, hb0, hb1, hb2⟩ := or_shift s hs32 cr (dg W32 x i) hc0 hcr bx.1 bx.2
      have HB1 : Hid (cr + dg W32 x i * 2 ^ s < 4294967296 * 2 ^ s) := hb1
      have hm := and_mask (cr + dg W32 x i * 2 ^ s) hb0 hb2
      clear hb1
      go_wp2
      go_roundw
      case rel =>
        refine ⟨i + 1, (cr + dg W32 x i * 2 ^ s) / (W32 : Int), put h (wh + i) ((cr + dg W32 x i * 2 ^ s) % (W32 : Int)), by omega, rfl, by go_num, by rw [W32c]; omega, ?_, ?_, ?_, ?_, ?_, hsf.set _ _, hbel.setCell (by simp) _⟩
        · rw [W32c]; have := HB1.out; exact Int.ediv_lt_of_lt_mul (by omega) (by omega)
        · have := hch.set (wh + i) (by omega) ((cr + dg W32 x i * 2 ^ s) % (W32 : Int)); rw [Nat.zero_add] at this; exact this
        · exact put_bounds hu (by rw [W32c]; omega) (by rw [W32c]; omega)
        · intro p hp; rw [put_other _ _ _ _ (by omega)]; exact HZ.out p (by omega)
        · exact shift_step W32 h (dg W32 x) (la + wh + 1) wh i cr (2 ^ s) _ (by omega) (by rw [HZ.out _ (Nat.le_refl _)]; omega) HV.out
      case measure => simp [intOf]; omega
    · have hil : i = la := by omega
      subst hil
      have hcg : wr.cell? ⟨w.heap.size, wh + i, none⟩ = some (.int .u64 (h (wh + i))) := by have := hch (wh + i) (by omega); rw [Nat.zero_add] at this; exact this
      have hfr : wr.frozen? ⟨w.heap.size, wh + i, none⟩ = false := by have := hsf (wh + i) (by omega); rw [Nat.zero_add] at this; exact this
      have hcr32 : cr < 4294967296 := by
        have : 2 ^ s ≤ 2 ^ 32 := Nat.pow_le_pow_right (by omega) (by omega)
        have e : ((2 ^ s : Nat) : Int) = (2 : Int) ^ s := by simp
        omega
      have hFin : Hid (val W32 (put h (wh + i) cr) (i + wh + 1) = ((x * 2 ^ n : Nat) : Int)) := by
        show _ = _
        have h1 := HV.out
        rw [VX.out] at h1
        rw [val_put _ _ _ _ _ (by omega), HZ.out _ (Nat.le_refl _), Int.sub_zero, h1, HN.out, Nat.pow_add, Nat.pow_mul]
        simp only [Int.natCast_mul, Int.natCast_pow]
        have e32 : (((2 : Nat) : Int) ^ 32) = (W32 : Int) := by decide
        rw [e32, Int.mul_comm ((W32 : Int) ^ wh), ← Int.mul_assoc]; rfl
      have hM : Mine .u64 w.heap.size (wr.setCell ⟨w.heap.size, wh + i, none⟩ (.int .u64 cr)) (.slice (some ⟨w.heap.size, 0, none⟩) (i + wh + 1) (i + wh + 1)) (i + wh + 1) (put h (wh + i) cr) := by
        refine ⟨_, _, rfl, Nat.le_refl _, by unfold LIM; omega, fun _ => ⟨_, _, rfl, ?_, hsf.set _ _, Nat.le_refl _⟩⟩
        have := hch.set (wh + i) (by omega) cr; rw [Nat.zero_add] at this; exact this
      go_wp2_with (go_at_call 62; refine (cut_mine _ _ _ _ _ _ hM (put_bounds hu hc0 (by unfold W32; omega)) hFin.out).mono ?_; rintro e w3 ⟨r, rfl, hr, rfl⟩)
      go_ret
      exact ⟨_, rfl, hr, hbel.setCell (by simp) _⟩

set_option maxRecDepth 20000 in
set_option maxHeartbeats 400000 in
theorem shiftUp_zero (ao : Option Addr) (c : Nat) (n : Int) (w : World) :
    Calls Tryd.prog 76 #[.slice ao 0 c, .int .i64 n] w fun e w' => e = .returned (.slice none 0 0) ∧ w' = w := by
  go_enter Tryd.func76, Tryd.ntmps76
  go_wp2
  go_ret
  exact ⟨rfl, rfl⟩

theorem shiftUp_any (v : Value) (x n : Nat) (w : World) (hv : Rep w v x) (hlx : nl W32 x ≤ 1000000) (hn : n ≤ 1048576) :
    Calls Tryd.prog 76 #[v, .int .i64 (n : Int)] w fun e w' => ∃ r, e = .returned r ∧ RepM w.heap.size w' r (x * 2 ^ n) ∧ Below w.heap.size w w' := by
  by_cases hx : x = 0
  · subst hx
    obtain ⟨ao, c, rfl, _, _, _⟩ := hv
    rw [nl_zero]
    refine (shiftUp_zero ao c _ w).mono fun e w' ⟨he, hw⟩ => ⟨_, he, ?_, by rw [hw]; exact Below.refl _ _⟩
    rw [Nat.zero_mul]; unfold RepM; rw [nl_zero]; exact Mine.nil _ _ _ _
  · exact shiftUp_pos v x n w hv hx hlx hn

theorem at0_dg32 (m i n : Nat) (hn : n = nl W32 m) : at0 (dg W32 m) n i = dg W32 m i := by
  unfold at0; split
  · rfl
  · rw [dg_high W32 m i]
    exact Nat.lt_of_lt_of_le (lt_pow_nl W32 m (by decide)) (Nat.pow_le_pow_right (by decide) (by omega))

/-- A limb of a number that is shifted down. -/
theorem down_digit (x wh s i : Nat) (hs : s < 32) : (dg W32 x (wh + i + 1) * 4294967296 + dg W32 x (wh + i)) / 2 ^ s % 4294967296 = dg W32 (x / 2 ^ (32 * wh + s)) i := by
  have e0 : x / 2 ^ (32 * wh + s) / W32 ^ i = x / W32 ^ (wh + i) / 2 ^ s := by
    rw [Nat.div_div_eq_div_mul, Nat.div_div_eq_div_mul]
    congr 1
    rw [Nat.pow_add, Nat.pow_add, Nat.pow_mul]
    have : 2 ^ 32 = W32 := by decide
    rw [this, Nat.mul_assoc, Nat.mul_comm (2 ^ s), ← Nat.mul_assoc]
  have e1 : dg W32 x (wh + i + 1) * 4294967296 + dg W32 x (wh + i) = ((x / W32 ^ (wh + i) % (W32 * W32) : Nat) : Int) := by
    unfold dg
    rw [Nat.pow_succ, ← Nat.div_div_eq_div_mul, Nat.mod_mul]
    simp only [Int.natCast_add, Int.natCast_mul]
    rw [W32c]; omega
  rw [e1]
  unfold dg
  rw [e0]
  generalize x / W32 ^ (wh + i) = y
  have e2 : W32 * W32 = 2 ^ s * 2 ^ (64 - s) := by rw [← Nat.pow_add, show s + (64 - s) = 64 by omega]; decide
  have e3 : y % (W32 * W32) / 2 ^ s = y / 2 ^ s % 2 ^ (64 - s) := by rw [e2, Nat.mod_mul_right_div_self]
  have e4 : ((y % (W32 * W32) : Nat) : Int) / 2 ^ s = ((y % (W32 * W32) / 2 ^ s : Nat) : Int) := by simp
  rw [e4, e3]
  have e5 : y / 2 ^ s % 2 ^ (64 - s) % W32 = y / 2 ^ s % W32 := Nat.mod_mod_of_dvd _ ⟨2 ^ (32 - s), by
    have : W32 = 2 ^ 32 := by decide
    rw [this, ← Nat.pow_add]; congr 1; omega⟩
  rw [← e5]; rfl

set_option maxRecDepth 20000 in
set_option maxHeartbeats 2000000 in
theorem shiftDown_pos (v : Value) (x n : Nat) (w : World) (hv : Rep w v x) (hlx : nl W32 x ≤ 1000000) (hn : n ≤ 9223372036854775807) (hlt : n / 32 < nl W32 x) :
    Calls Tryd.prog 78 #[v, .int .i64 (n : Int)] w fun e w' => ∃ r, e = .returned r ∧ RepM w.heap.size w' r (x / 2 ^ n) ∧ Below w.heap.size w w' := by
  obtain ⟨i0, hi, hz0, hz1, hz2⟩ := info_parts info_u64
  have hN := hv
  obtain ⟨ao, c, rfl, hnc, hl, h4⟩ := hv
  have UX := u32_dg x (nl W32 x)
  have HA : Hid (∀ i, at0 (dg W32 x) (nl W32 x) i = dg W32 x i) := fun i => at0_dg32 x i _ rfl
  have HU : Hid (∀ i, 0 ≤ dg W32 x i ∧ dg W32 x i < 4294967296) := fun i => dg_bounds W32 x i (by decide)
  have HL : Hid (x < W32 ^ nl W32 x) := lt_pow_nl W32 x (by decide)
  obtain ⟨b, off, rfl, hc⟩ := h4 (by omega)
  clear h4
  unfold Rep at hN
  generalize nl W32 x = la at *
  have hblt := hc.lt (by omega)
  obtain ⟨wh, hwh⟩ : ∃ wh, wh = n / 32 := ⟨_, rfl⟩
  obtain ⟨s, hs⟩ : ∃ s, s = n % 32 := ⟨_, rfl⟩
  have hs32 : s < 32 := by omega
  have hwb : wh < la := by omega
  have HN : Hid (n = 32 * wh + s) := by show n = _; omega
  have d1 : ((n : Int) / 32) = (wh : Int) := by omega
  have d2 : ((n : Int) % 32) = (s : Int) := by omega
  have hnw : ¬ (la : Int) ≤ (wh : Int) := by omega
  clear hwh hs hlt
  go_enter Tryd.func78, Tryd.ntmps78
  go_wp2_with (at_make; refine wpList_make_full _ rfl _ _ 23 rfl _ 59 i0 (.int .u64 0) 1 Tryd.underlying23 hi hz0 hz1 _ _ _ _ (la - wh) rfl rfl (by omega) (by omega) (by rw [hz2]; omega) (by unfold maxLen; omega) (Nat.le_refl _) ?_; intro w1 hown hgrow)
  have hbl := below_grown hgrow
  obtain ⟨hc1, hs1⟩ := mine_made (k := .u64) (w := w) hown (fun _ => 0) (fun i hi => made_zero .u64 (la - wh) i hi)
  clear hown hgrow
  have hsz := hbl.size
  go_loopw [24] (fun vi wr => ∃ (i : Nat), i ≤ la - wh ∧ vi = .int .i64 (i : Int) ∧ Cells wr .u64 w.heap.size 0 (la - wh) (upto (dg W32 (x / 2 ^ n)) i) ∧ Soft wr w.heap.size 0 (la - wh) ∧ Below w.heap.size w wr) (fun vi _ => la - wh - (intOf vi).toNat)
  case atStart => exact ⟨0, Nat.zero_le _, rfl, hc1.congr (fun i _ => by simp [upto]), hs1, hbl⟩
  case round =>
    obtain ⟨i, hi', rfl, hch, hsf, hbel⟩ := hrel
    have hs2 := hbel.size
    by_cases hlt : i < la - wh
    · have hca : wr.cell? ⟨b, off + (wh + i), none⟩ = some (.int .u64 (dg W32 x (wh + i))) := (hc.below hbel hblt) (wh + i) (by omega)
      have hcg : wr.cell? ⟨w.heap.size, i, none⟩ = some (.int .u64 (upto (dg W32 (x / 2 ^ n)) i i)) := by have := hch i hlt; rw [Nat.zero_add] at this; exact this
      have hfr : wr.frozen? ⟨w.heap.size, i, none⟩ = false := by have := hsf i hlt; rw [Nat.zero_add] at this; exact this
      have hNr := hN.below hbel
      have hat := HA.out (wh + i + 1)
      have b1 := HU.out (wh + i + 1)
      have b0 := HU.out (wh + i)
      have hdd : Hid ((dg W32 x (wh + i + 1) * 4294967296 + dg W32 x (wh + i)) / 2 ^ s % 4294967296 = dg W32 (x / 2 ^ n) i) := by show _ = _; rw [HN.out]; exact down_digit x wh s i hs32
      generalize dg W32 x (wh + i + 1) = D1 at *
      generalize dg W32 x (wh + i) = D0 at *
      have ho := or_join' D1 D0 b1.1 b1.2 b0.1 b0.2
      have hp1 : (0 : Int) < 2 ^ s := by
        have : 0 < 2 ^ s := Nat.two_pow_pos s
        have e : ((2 ^ s : Nat) : Int) = (2 : Int) ^ s := by simp
        omega
      have hq0 : 0 ≤ (D1 * 4294967296 + D0) / 2 ^ s := Int.ediv_nonneg (by omega) (by omega)
      have hq1 : (D1 * 4294967296 + D0) / 2 ^ s < 18446744073709551616 := Int.lt_of_le_of_lt (Int.ediv_le_self _ (by omega)) (by omega)
      have hm := and_mask ((D1 * 4294967296 + D0) / 2 ^ s) hq0 hq1
      have i1 : (0 : Int) ≤ (wh : Int) + (i : Int) := by omega
      have i2 : (wh : Int) + (i : Int) < (la : Int) := by omega
      have i3 : (i : Int) < (la : Int) - (wh : Int) := by omega
      have hw1 : IntKind.i64.wrap ((wh : Int) + (i : Int)) = (wh : Int) + (i : Int) := by rw [IntKind.wrap_i64]; omega
      have hw2 : IntKind.i64.wrap ((wh : Int) + (i : Int) + 1) = (wh : Int) + (i : Int) + 1 := by rw [IntKind.wrap_i64]; omega
      have hnt : ((wh : Int) + (i : Int)).toNat = wh + i := by omega
      have hw3 : IntKind.u64.wrap (D1 * 4294967296) = D1 * 4294967296 := by rw [IntKind.wrap_u64]; omega
      go_wp2
      go_region_with (first | (go_at_call 64; refine (limb_any _ _ _ _ _ (by exact hNr) (by omega) (by unfold LIM; omega)).mono ?_; rintro e w2 ⟨rfl, rfl⟩; rw [show ((wh : Int) + (i : Int) + 1).toNat = wh + i + 1 by omega, hat]))
      all_goals
        go_wp2
        go_roundw
        case rel =>
          rw [hdd.out]
          refine ⟨i + 1, by omega, by go_num, ?_, hsf.set _ _, (hbel.setCell (by simp) _).drew⟩
          have := (hch.set i hlt (dg W32 (x / 2 ^ n) i)).congr (fun j _ => upto_put (dg W32 (x / 2 ^ n)) i j)
          rw [Nat.zero_add] at this; exact this
        case measure => simp [intOf]; omega
    · have hil : i = la - wh := by omega
      have HV : Hid (val W32 (dg W32 (x / 2 ^ n)) (la - wh) = ((x / 2 ^ n : Nat) : Int)) := by
        show _ = _
        rw [val_dg, Nat.mod_eq_of_lt]
        have h1 := HL.out
        rw [HN.out, Nat.div_lt_iff_lt_mul (Nat.two_pow_pos _)]
        have h2 : W32 ^ la = W32 ^ (la - wh) * 2 ^ (32 * wh) := by
          rw [Nat.pow_mul, show 2 ^ 32 = W32 by decide, ← Nat.pow_add]; congr 1; omega
        have h3 : W32 ^ (la - wh) * 2 ^ (32 * wh) ≤ W32 ^ (la - wh) * 2 ^ (32 * wh + s) := Nat.mul_le_mul_left _ (Nat.pow_le_pow_right (by omega) (by omega))
        omega
      have hM : Mine .u64 w.heap.size wr (.slice (some ⟨w.heap.size, 0, none⟩) (la - wh) (la - wh)) (la - wh) (dg W32 (x / 2 ^ n)) :=
        ⟨_, _, rfl, Nat.le_refl _, by unfold LIM; omega, fun _ => ⟨_, _, rfl, hch.congr (fun j hj => upto_all _ _ _ (by omega)), hsf, Nat.le_refl _⟩⟩
      go_wp2_with (go_at_call 62; refine (cut_mine _ _ _ _ _ _ hM (u32_dg _ _) HV.out).mono ?_; rintro e w3 ⟨r, rfl, hr, rfl⟩)
      go_ret
      exact ⟨_, rfl, hr, hbel⟩

set_option maxRecDepth 20000 in
set_option maxHeartbeats 400000 in
theorem shiftDown_zero (v : Value) (x n : Nat) (w : World) (hv : Rep w v x) (hn : n ≤ 9223372036854775807) (hge : nl W32 x ≤ n / 32) :
    Calls Tryd.prog 78 #[v, .int .i64 (n : Int)] w fun e w' => e = .returned (.slice none 0 0) ∧ w' = w := by
  obtain ⟨ao, c, rfl, _, _, _⟩ := hv
  have h1 : (nl W32 x : Int) ≤ (n : Int) / 32 := by omega
  generalize nl W32 x = la at *
  go_enter Tryd.func78, Tryd.ntmps78
  go_wp2
  go_ret
  exact ⟨rfl, rfl⟩

theorem shiftDown_any (v : Value) (x n : Nat) (w : World) (hv : Rep w v x) (hlx : nl W32 x ≤ 1000000) (hn : n ≤ 9223372036854775807) :
    Calls Tryd.prog 78 #[v, .int .i64 (n : Int)] w fun e w' => ∃ r, e = .returned r ∧ RepM w.heap.size w' r (x / 2 ^ n) ∧ Below w.heap.size w w' := by
  by_cases h : n / 32 < nl W32 x
  · exact shiftDown_pos v x n w hv hlx hn h
  · refine (shiftDown_zero v x n w hv hn (by omega)).mono fun e w' ⟨he, hw⟩ => ⟨_, he, ?_, by rw [hw]; exact Below.refl _ _⟩
    have h0 : x / 2 ^ n = 0 := by
      apply Nat.div_eq_of_lt
      have h1 := lt_pow_nl W32 x (by decide)
      have h2 : W32 ^ nl W32 x ≤ W32 ^ (n / 32) := Nat.pow_le_pow_right (by decide) (by omega)
      have h3 : W32 ^ (n / 32) = 2 ^ (32 * (n / 32)) := by rw [Nat.pow_mul]
      have h4 : 2 ^ (32 * (n / 32)) ≤ 2 ^ n := Nat.pow_le_pow_right (by omega) (by omega)
      omega
    rw [h0]; unfold RepM; rw [nl_zero]; exact Mine.nil _ _ _ _

end Go.Proofs.YtjfacmeeplalkaaDoor
