/-
  What nat.lessTimes answers: a multiple less another one.
-/
import Derived.Test.YthhabammejkjcaaDoorSub
import Derived.Test.YthhabammejkjcaaDoorLehmer
namespace Go.Proofs.YthhabammejkjcaaDoor
open Go.RowKit

theorem less_step (B : Nat) (h fa fb : Nat → Int) (n i : Nat) (u v U D c t : Int) (hi : i < n) (hz : h i = 0) (ht : t = (U + u * fa i) % B - (D + v * fb i) % B - c)
    (hv : val B h n + (U - D - c) * (B : Int) ^ i = u * val B fa i - v * val B fb i) :
    val B (put h i (t % B)) n + ((U + u * fa i) / B - (D + v * fb i) / B - (0 - t / B)) * (B : Int) ^ (i + 1) = u * val B fa (i + 1) - v * val B fb (i + 1) := by
  have e1 : (B : Int) ^ (i + 1) = (B : Int) ^ i * B := Int.pow_succ _ _
  have d1 := Int.mul_ediv_add_emod (U + u * fa i) B
  have d2 := Int.mul_ediv_add_emod (D + v * fb i) B
  have d3 := Int.mul_ediv_add_emod t B
  rw [val_put B h n i _ hi, hz, e1]
  simp only [val]
  generalize (U + u * fa i) / (B : Int) = qU at *
  generalize (D + v * fb i) / (B : Int) = qD at *
  generalize (U + u * fa i) % (B : Int) = rU at *
  generalize (D + v * fb i) % (B : Int) = rD at *
  generalize t / (B : Int) = qt at *
  generalize t % (B : Int) = rt at *
  generalize (B : Int) ^ i = P at *
  grind

theorem less_end (V K X u v A B x y P : Int) (hP : 0 < P) (hV : 0 ≤ V ∧ V < P) (hX : 0 ≤ X ∧ X < P) (h : V + K * P = u * A - v * B) (hx : u * x = v * y + X) (ha : ∃ p, x = A + p * P) (hb : ∃ q, y = B + q * P) : V = X := by
  obtain ⟨p, hp⟩ := ha
  obtain ⟨q, hq⟩ := hb
  have e : X = V + (K + u * p - v * q) * P := by grind
  generalize K + u * p - v * q = M at e
  by_cases h0 : M = 0
  · rw [h0] at e; omega
  · exfalso
    by_cases h1 : 1 ≤ M
    · have := Int.mul_le_mul_of_nonneg_right h1 (Int.le_of_lt hP); omega
    · have h2 : M ≤ -1 := by omega
      have := Int.mul_le_mul_of_nonneg_right h2 (Int.le_of_lt hP); omega

theorem limb_prod (x y : Int) (h0 : 0 ≤ x) (h1 : x < 4294967296) (h2 : 0 ≤ y) (h3 : y < 4294967296) : 0 ≤ x * y ∧ x * y ≤ 18446744065119617025 := by
  refine ⟨Int.mul_nonneg h0 h2, ?_⟩
  have a1 : x * y ≤ 4294967295 * y := Int.mul_le_mul_of_nonneg_right (by omega) h2
  omega

theorem digits_hi (x n : Nat) : ∃ p : Int, (x : Int) = val W32 (dg W32 x) n + p * (W32 : Int) ^ n := by
  refine ⟨((x / W32 ^ n : Nat) : Int), ?_⟩
  rw [val_dg]
  have h := Nat.div_add_mod x (W32 ^ n)
  have e : ((W32 ^ n : Nat) : Int) = (W32 : Int) ^ n := by simp
  rw [← e, ← Int.natCast_mul, ← Int.natCast_add, Nat.mul_comm]
  omega

set_option maxRecDepth 20000 in
set_option maxHeartbeats 1000000 in
theorem lessTimes_a (u v : Nat) (va vb : Value) (x y X : Nat) (w : World) (ha : Rep w va x) (hb : Rep w vb y) (hu : u < 4294967296) (hv : v < 4294967296) (hx : u * x = v * y + X) (hX : X < W32 ^ (nl W32 x)) (hlx : nl W32 x ≤ 1000000) (hly : nl W32 y ≤ 1000000) (hle : nl W32 x ≤ nl W32 y) :
    Calls Tryd.prog 61 #[.int .u64 (u : Int), va, .int .u64 (v : Int), vb] w fun e w' => ∃ r, e = .returned r ∧ RepM w.heap.size w' r X ∧ Below w.heap.size w w' := by
  obtain ⟨i0, hi, hz0, hz1, hz2⟩ := info_parts info_u64
  obtain ⟨ao, c, rfl, _, hl, h4⟩ := ha
  obtain ⟨bo, d, rfl, _, kl, k4⟩ := hb
  generalize nl W32 x = la at *
  generalize nl W32 y = lb at *
  have hn1 : la ≤ la := by omega
  have hn2 : la ≤ lb := by omega
  have hmi : (la : Int) ≤ (lb : Int) := by omega
  have hmj : ¬ (lb : Int) < (la : Int) := by omega
  have HX : Hid (X < W32 ^ la) := hX
  have HXX : Hid (u * x = v * y + X) := hx
  have hfa : ∀ i, 0 ≤ dg W32 x i ∧ dg W32 x i < 4294967296 := fun i => dg_bounds W32 x i (by decide)
  have hfb : ∀ i, 0 ≤ dg W32 y i ∧ dg W32 y i < 4294967296 := fun i => dg_bounds W32 y i (by decide)
  have HA : Hid (∃ p : Int, (x : Int) = val W32 (dg W32 x) la + p * (W32 : Int) ^ la) := digits_hi x _
  have HB : Hid (∃ p : Int, (y : Int) = val W32 (dg W32 y) la + p * (W32 : Int) ^ la) := digits_hi y _
  generalize dg W32 x = fa at *
  generalize dg W32 y = fb at *
  have H4 := show Hid (0 < la → ∃ b off, ao = some ⟨b, off, none⟩ ∧ Cells w .u64 b off la fa) from h4
  have K4 := show Hid (0 < lb → ∃ b off, bo = some ⟨b, off, none⟩ ∧ Cells w .u64 b off lb fb) from k4
  have hnm : la ≤ maxLen := by unfold maxLen; omega
  have hna : i0.bytes * la ≤ 281474976710656 := by rw [hz2]; omega
  have hnl : la ≤ LIM := by unfold LIM; omega
  clear h4 k4 hX hx
  go_enter Tryd.func61, Tryd.ntmps61
  go_wp2_with (at_make; refine wpList_make_full _ rfl _ _ 23 rfl _ 51 i0 (.int .u64 0) 1 Tryd.underlying23 hi hz0 hz1 _ _ _ _ la rfl rfl rfl rfl hna hnm (Nat.le_refl _) ?_; intro w1 hown hgrow)
  have hb1 := below_grown hgrow
  obtain ⟨hc1, hs1⟩ := mine_made (k := .u64) (w := w) hown (fun _ => 0) (fun i hi => made_zero .u64 la i hi)
  clear hown hgrow hna hnm
  have hsz1 := hb1.size
  go_loopw [10, 11, 12, 23] (fun vU vD vc vi wr => ∃ (i : Nat) (U D cr : Int) (h : Nat → Int), i ≤ la ∧ vU = .int .u64 U ∧ vD = .int .u64 D ∧ vc = .int .u64 cr ∧ vi = .int .i64 (i : Int) ∧ 0 ≤ U ∧ U < 4294967296 ∧ 0 ≤ D ∧ D < 4294967296 ∧ 0 ≤ cr ∧ cr ≤ 1 ∧ Cells wr .u64 w.heap.size 0 la h ∧ U32 la h ∧ (∀ p, i ≤ p → h p = 0) ∧
      val W32 h la + (U - D - cr) * (W32 : Int) ^ i = (u : Int) * val W32 fa i - (v : Int) * val W32 fb i ∧ Soft wr w.heap.size 0 la ∧ Below w.heap.size w wr) (fun _ _ _ vi _ => la - (intOf vi).toNat)
  case atStart => exact ⟨0, 0, 0, 0, fun _ => 0, Nat.zero_le _, rfl, rfl, rfl, rfl, by omega, by omega, by omega, by omega, by omega, by omega, hc1, fun _ _ => ⟨Int.le_refl _, (by decide : (0 : Int) < (W32 : Int))⟩, fun _ _ => rfl, by rw [val_zero la (fun _ _ => rfl)]; simp [val], hs1, hb1⟩
  case round =>
    clear hc1 hs1 hb1
    obtain ⟨i, U, D, cr, h, hiN, rfl, rfl, rfl, rfl, hU0, hU1, hD0, hD1, hc0, hc1, hch, huh, hz, hval, hsr, hbel⟩ := hrel
    have HV : Hid (val W32 h la + (U - D - cr) * (W32 : Int) ^ i = (u : Int) * val W32 fa i - (v : Int) * val W32 fb i) := hval
    have HZ : Hid (∀ p, i ≤ p → h p = 0) := hz
    clear hval hz
    by_cases hlt : i < la
    · obtain ⟨b1, o1, rfl, hca0⟩ := H4.out (by omega)
      obtain ⟨b2, o2, rfl, hcb0⟩ := K4.out (by omega)
      have hca : wr.cell? ⟨b1, o1 + i, none⟩ = some (.int .u64 (fa i)) := (hca0.below hbel (hca0.lt (by omega))) i (by omega)
      have hcb : wr.cell? ⟨b2, o2 + i, none⟩ = some (.int .u64 (fb i)) := (hcb0.below hbel (hcb0.lt (by omega))) i (by omega)
      have hcell : wr.cell? ⟨w.heap.size, i, none⟩ = some (.int .u64 (h i)) := by have := hch i hlt; rw [Nat.zero_add] at this; exact this
      have hfr : wr.frozen? ⟨w.heap.size, i, none⟩ = false := by have := hsr i hlt; rw [Nat.zero_add] at this; exact this
      have q1 := mul_le_mul32 (u : Int) (fa i) (by omega) (by omega) (hfa i).1 (hfa i).2
      have q2 := mul_le_mul32 (v : Int) (fb i) (by omega) (by omega) (hfb i).1 (hfb i).2
      have hst := less_step W32 h fa fb la i (u : Int) (v : Int) U D cr _ hlt (HZ.out i (Nat.le_refl _)) rfl HV.out
      have HST : Hid (val W32 (put h i (((U + (u : Int) * fa i) % W32 - (D + (v : Int) * fb i) % W32 - cr) % W32)) la + ((U + (u : Int) * fa i) / W32 - (D + (v : Int) * fb i) / W32 - (0 - ((U + (u : Int) * fa i) % W32 - (D + (v : Int) * fb i) % W32 - cr) / W32)) * (W32 : Int) ^ (i + 1) = (u : Int) * val W32 fa (i + 1) - (v : Int) * val W32 fb (i + 1)) := hst
      clear hst HV hca0 hcb0
      have hi0 : (0 : Int) ≤ (i : Int) := by omega
      generalize hP1 : (u : Int) * fa i = P1 at *
      generalize hP2 : (v : Int) * fb i = P2 at *
      have m1 := and_mask (U + P1) (by omega) (by omega)
      have m2 := and_mask (D + P2) (by omega) (by omega)
      obtain ⟨hm, hq⟩ := wrap_diff ((U + P1) % 4294967296) ((D + P2) % 4294967296) cr (by omega) (by omega) (by omega) (by omega) hc0 hc1
      have hW : (W32 : Int) = 4294967296 := rfl
      rw [hW] at HST
      clear hW
      go_wp2
      go_roundw
      case rel =>
        refine ⟨i + 1, (U + P1) / 4294967296, (D + P2) / 4294967296, 0 - ((U + P1) % 4294967296 - (D + P2) % 4294967296 - cr) / 4294967296, put h i (((U + P1) % 4294967296 - (D + P2) % 4294967296 - cr) % 4294967296), by omega, rfl, rfl, by simp, by go_num, by omega, by omega, by omega, by omega, by omega, by omega, ?_, put_bounds huh (by omega) (by unfold W32; omega), ?_, HST.out, ?_, ?_⟩
        · have := hch.set i hlt (((U + P1) % 4294967296 - (D + P2) % 4294967296 - cr) % 4294967296); rw [Nat.zero_add] at this; exact this
        · intro p hp; rw [put_other _ _ _ _ (by omega)]; exact HZ.out p (by omega)
        · exact hsr.set _ _
        · exact hbel.setCell (by simp) _
      case measure => simp [intOf]; omega
    · have hiN' : i = la := by omega
      subst hiN'
      have hP := powB_pos W32 (by decide) i
      have hVb := val_bounds W32 h i (fun j hj => huh j hj)
      have hXi : (0 : Int) ≤ (X : Int) ∧ (X : Int) < (W32 : Int) ^ i := by
        have e : ((W32 ^ i : Nat) : Int) = (W32 : Int) ^ i := by simp
        have := HX.out
        omega
      have hxi : (u : Int) * (x : Int) = (v : Int) * (y : Int) + (X : Int) := by
        have := HXX.out
        rw [← Int.natCast_mul, ← Int.natCast_mul, ← Int.natCast_add, this]
      have hfin : val W32 h i = (X : Int) := less_end _ _ _ _ _ _ _ _ _ _ hP hVb hXi HV.out hxi HA.out HB.out
      have hMine : Mine .u64 w.heap.size wr (.slice (some ⟨w.heap.size, 0, none⟩) i i) i h := ⟨_, _, rfl, Nat.le_refl _, hnl, fun _ => ⟨_, _, rfl, hch, hsr, Nat.le_refl _⟩⟩
      have HF : Hid (val W32 h i = (X : Int)) := hfin
      clear hfin hxi hXi hVb hP HV HZ HX HXX HA HB
      go_wp2_with (go_at_call 63; refine (cut_mine _ _ _ _ _ X hMine huh HF.out).mono ?_; rintro e w3 ⟨r, rfl, hr, rfl⟩)
      go_ret
      exact ⟨_, rfl, hr, hbel⟩

set_option maxRecDepth 20000 in
set_option maxHeartbeats 1000000 in
theorem lessTimes_b (u v : Nat) (va vb : Value) (x y X : Nat) (w : World) (ha : Rep w va x) (hb : Rep w vb y) (hu : u < 4294967296) (hv : v < 4294967296) (hx : u * x = v * y + X) (hX : X < W32 ^ (nl W32 y)) (hlx : nl W32 x ≤ 1000000) (hly : nl W32 y ≤ 1000000) (hle : nl W32 y < nl W32 x) :
    Calls Tryd.prog 61 #[.int .u64 (u : Int), va, .int .u64 (v : Int), vb] w fun e w' => ∃ r, e = .returned r ∧ RepM w.heap.size w' r X ∧ Below w.heap.size w w' := by
  obtain ⟨i0, hi, hz0, hz1, hz2⟩ := info_parts info_u64
  obtain ⟨ao, c, rfl, _, hl, h4⟩ := ha
  obtain ⟨bo, d, rfl, _, kl, k4⟩ := hb
  generalize nl W32 x = la at *
  generalize nl W32 y = lb at *
  have hn1 : lb ≤ la := by omega
  have hn2 : lb ≤ lb := by omega
  have hmi : (lb : Int) < (la : Int) := by omega
  have hmj : ¬ (la : Int) ≤ (lb : Int) := by omega
  have HX : Hid (X < W32 ^ lb) := hX
  have HXX : Hid (u * x = v * y + X) := hx
  have hfa : ∀ i, 0 ≤ dg W32 x i ∧ dg W32 x i < 4294967296 := fun i => dg_bounds W32 x i (by decide)
  have hfb : ∀ i, 0 ≤ dg W32 y i ∧ dg W32 y i < 4294967296 := fun i => dg_bounds W32 y i (by decide)
  have HA : Hid (∃ p : Int, (x : Int) = val W32 (dg W32 x) lb + p * (W32 : Int) ^ lb) := digits_hi x _
  have HB : Hid (∃ p : Int, (y : Int) = val W32 (dg W32 y) lb + p * (W32 : Int) ^ lb) := digits_hi y _
  generalize dg W32 x = fa at *
  generalize dg W32 y = fb at *
  have H4 := show Hid (0 < la → ∃ b off, ao = some ⟨b, off, none⟩ ∧ Cells w .u64 b off la fa) from h4
  have K4 := show Hid (0 < lb → ∃ b off, bo = some ⟨b, off, none⟩ ∧ Cells w .u64 b off lb fb) from k4
  have hnm : lb ≤ maxLen := by unfold maxLen; omega
  have hna : i0.bytes * lb ≤ 281474976710656 := by rw [hz2]; omega
  have hnl : lb ≤ LIM := by unfold LIM; omega
  clear h4 k4 hX hx
  go_enter Tryd.func61, Tryd.ntmps61
  go_wp2_with (at_make; refine wpList_make_full _ rfl _ _ 23 rfl _ 51 i0 (.int .u64 0) 1 Tryd.underlying23 hi hz0 hz1 _ _ _ _ lb rfl rfl rfl rfl hna hnm (Nat.le_refl _) ?_; intro w1 hown hgrow)
  have hb1 := below_grown hgrow
  obtain ⟨hc1, hs1⟩ := mine_made (k := .u64) (w := w) hown (fun _ => 0) (fun i hi => made_zero .u64 lb i hi)
  clear hown hgrow hna hnm
  have hsz1 := hb1.size
  go_loopw [10, 11, 12, 23] (fun vU vD vc vi wr => ∃ (i : Nat) (U D cr : Int) (h : Nat → Int), i ≤ lb ∧ vU = .int .u64 U ∧ vD = .int .u64 D ∧ vc = .int .u64 cr ∧ vi = .int .i64 (i : Int) ∧ 0 ≤ U ∧ U < 4294967296 ∧ 0 ≤ D ∧ D < 4294967296 ∧ 0 ≤ cr ∧ cr ≤ 1 ∧ Cells wr .u64 w.heap.size 0 lb h ∧ U32 lb h ∧ (∀ p, i ≤ p → h p = 0) ∧
      val W32 h lb + (U - D - cr) * (W32 : Int) ^ i = (u : Int) * val W32 fa i - (v : Int) * val W32 fb i ∧ Soft wr w.heap.size 0 lb ∧ Below w.heap.size w wr) (fun _ _ _ vi _ => lb - (intOf vi).toNat)
  case atStart => exact ⟨0, 0, 0, 0, fun _ => 0, Nat.zero_le _, rfl, rfl, rfl, rfl, by omega, by omega, by omega, by omega, by omega, by omega, hc1, fun _ _ => ⟨Int.le_refl _, (by decide : (0 : Int) < (W32 : Int))⟩, fun _ _ => rfl, by rw [val_zero lb (fun _ _ => rfl)]; simp [val], hs1, hb1⟩
  case round =>
    clear hc1 hs1 hb1
    obtain ⟨i, U, D, cr, h, hiN, rfl, rfl, rfl, rfl, hU0, hU1, hD0, hD1, hc0, hc1, hch, huh, hz, hval, hsr, hbel⟩ := hrel
    have HV : Hid (val W32 h lb + (U - D - cr) * (W32 : Int) ^ i = (u : Int) * val W32 fa i - (v : Int) * val W32 fb i) := hval
    have HZ : Hid (∀ p, i ≤ p → h p = 0) := hz
    clear hval hz
    by_cases hlt : i < lb
    · obtain ⟨b1, o1, rfl, hca0⟩ := H4.out (by omega)
      obtain ⟨b2, o2, rfl, hcb0⟩ := K4.out (by omega)
      have hca : wr.cell? ⟨b1, o1 + i, none⟩ = some (.int .u64 (fa i)) := (hca0.below hbel (hca0.lt (by omega))) i (by omega)
      have hcb : wr.cell? ⟨b2, o2 + i, none⟩ = some (.int .u64 (fb i)) := (hcb0.below hbel (hcb0.lt (by omega))) i (by omega)
      have hcell : wr.cell? ⟨w.heap.size, i, none⟩ = some (.int .u64 (h i)) := by have := hch i hlt; rw [Nat.zero_add] at this; exact this
      have hfr : wr.frozen? ⟨w.heap.size, i, none⟩ = false := by have := hsr i hlt; rw [Nat.zero_add] at this; exact this
      have q1 := mul_le_mul32 (u : Int) (fa i) (by omega) (by omega) (hfa i).1 (hfa i).2
      have q2 := mul_le_mul32 (v : Int) (fb i) (by omega) (by omega) (hfb i).1 (hfb i).2
      have hst := less_step W32 h fa fb lb i (u : Int) (v : Int) U D cr _ hlt (HZ.out i (Nat.le_refl _)) rfl HV.out
      have HST : Hid (val W32 (put h i (((U + (u : Int) * fa i) % W32 - (D + (v : Int) * fb i) % W32 - cr) % W32)) lb + ((U + (u : Int) * fa i) / W32 - (D + (v : Int) * fb i) / W32 - (0 - ((U + (u : Int) * fa i) % W32 - (D + (v : Int) * fb i) % W32 - cr) / W32)) * (W32 : Int) ^ (i + 1) = (u : Int) * val W32 fa (i + 1) - (v : Int) * val W32 fb (i + 1)) := hst
      clear hst HV hca0 hcb0
      have hi0 : (0 : Int) ≤ (i : Int) := by omega
      generalize hP1 : (u : Int) * fa i = P1 at *
      generalize hP2 : (v : Int) * fb i = P2 at *
      have m1 := and_mask (U + P1) (by omega) (by omega)
      have m2 := and_mask (D + P2) (by omega) (by omega)
      obtain ⟨hm, hq⟩ := wrap_diff ((U + P1) % 4294967296) ((D + P2) % 4294967296) cr (by omega) (by omega) (by omega) (by omega) hc0 hc1
      have hW : (W32 : Int) = 4294967296 := rfl
      rw [hW] at HST
      clear hW
      go_wp2
      go_roundw
      case rel =>
        refine ⟨i + 1, (U + P1) / 4294967296, (D + P2) / 4294967296, 0 - ((U + P1) % 4294967296 - (D + P2) % 4294967296 - cr) / 4294967296, put h i (((U + P1) % 4294967296 - (D + P2) % 4294967296 - cr) % 4294967296), by omega, rfl, rfl, by simp, by go_num, by omega, by omega, by omega, by omega, by omega, by omega, ?_, put_bounds huh (by omega) (by unfold W32; omega), ?_, HST.out, ?_, ?_⟩
        · have := hch.set i hlt (((U + P1) % 4294967296 - (D + P2) % 4294967296 - cr) % 4294967296); rw [Nat.zero_add] at this; exact this
        · intro p hp; rw [put_other _ _ _ _ (by omega)]; exact HZ.out p (by omega)
        · exact hsr.set _ _
        · exact hbel.setCell (by simp) _
      case measure => simp [intOf]; omega
    · have hiN' : i = lb := by omega
      subst hiN'
      have hP := powB_pos W32 (by decide) i
      have hVb := val_bounds W32 h i (fun j hj => huh j hj)
      have hXi : (0 : Int) ≤ (X : Int) ∧ (X : Int) < (W32 : Int) ^ i := by
        have e : ((W32 ^ i : Nat) : Int) = (W32 : Int) ^ i := by simp
        have := HX.out
        omega
      have hxi : (u : Int) * (x : Int) = (v : Int) * (y : Int) + (X : Int) := by
        have := HXX.out
        rw [← Int.natCast_mul, ← Int.natCast_mul, ← Int.natCast_add, this]
      have hfin : val W32 h i = (X : Int) := less_end _ _ _ _ _ _ _ _ _ _ hP hVb hXi HV.out hxi HA.out HB.out
      have hMine : Mine .u64 w.heap.size wr (.slice (some ⟨w.heap.size, 0, none⟩) i i) i h := ⟨_, _, rfl, Nat.le_refl _, hnl, fun _ => ⟨_, _, rfl, hch, hsr, Nat.le_refl _⟩⟩
      have HF : Hid (val W32 h i = (X : Int)) := hfin
      clear hfin hxi hXi hVb hP HV HZ HX HXX HA HB
      go_wp2_with (go_at_call 63; refine (cut_mine _ _ _ _ _ X hMine huh HF.out).mono ?_; rintro e w3 ⟨r, rfl, hr, rfl⟩)
      go_ret
      exact ⟨_, rfl, hr, hbel⟩

theorem lessTimes_any (u v : Nat) (va vb : Value) (x y X : Nat) (w : World) (ha : Rep w va x) (hb : Rep w vb y) (hu : u < 4294967296) (hv : v < 4294967296) (hx : u * x = v * y + X) (hXx : X ≤ x) (hXy : X ≤ y) (hlx : nl W32 x ≤ 1000000) (hly : nl W32 y ≤ 1000000) :
    Calls Tryd.prog 61 #[.int .u64 (u : Int), va, .int .u64 (v : Int), vb] w fun e w' => ∃ r, e = .returned r ∧ RepM w.heap.size w' r X ∧ Below w.heap.size w w' := by
  have h1 := lt_pow_nl W32 x (by decide)
  have h2 := lt_pow_nl W32 y (by decide)
  by_cases h : nl W32 x ≤ nl W32 y
  · exact lessTimes_a u v va vb x y X w ha hb hu hv hx (by omega) hlx hly h
  · exact lessTimes_b u v va vb x y X w ha hb hu hv hx (by omega) hlx hly (by omega)

end Go.Proofs.YthhabammejkjcaaDoor
