/-
  What nat.divideStep leaves and answers: one limb of a quotient, and what is left.
-/
import Derived.Test.YthhabammejkjcaaDoorGuess
namespace Go.Proofs.YthhabammejkjcaaDoor
open Go.RowKit

theorem sub_step (B : Nat) (h g : Nat → Int) (N i : Nat) (c q t S : Int) (hi : i < N) (ht : t = c + q * g i) (hv : val B h N - c * (B : Int) ^ i = S - q * val B g i) :
    val B (put h i ((h i - t % B) % B)) N - (t / B + (0 - (h i - t % B) / B)) * (B : Int) ^ (i + 1) = S - q * val B g (i + 1) := by
  have e1 : (B : Int) ^ (i + 1) = (B : Int) ^ i * B := Int.pow_succ _ _
  have f1 := Int.emod_add_mul_ediv t B
  rw [val_put B h N i _ hi, e1]
  have c1 := carry_step (B : Int) (h i - t % B) (h i) ((B : Int) ^ i) (val B h N)
  generalize (h i - t % (B : Int)) / (B : Int) = z at *
  generalize (h i - t % (B : Int)) % (B : Int) = y at *
  have c2 : (t / B + (0 - z)) * ((B : Int) ^ i * B) = t / B * ((B : Int) ^ i * B) - z * ((B : Int) ^ i * B) := by
    rw [Int.add_mul, Int.sub_mul, Int.zero_mul]; omega
  have c3 : (h i - t % B - h i) * (B : Int) ^ i = 0 - t % B * (B : Int) ^ i := by
    rw [show h i - t % B - h i = 0 - t % B by omega, Int.sub_mul, Int.zero_mul]
  have c4 : t / B * ((B : Int) ^ i * B) + t % B * (B : Int) ^ i = t * (B : Int) ^ i := by
    have : t / B * ((B : Int) ^ i * B) = B * (t / B) * (B : Int) ^ i := by rw [Int.mul_comm ((B : Int) ^ i), ← Int.mul_assoc, Int.mul_comm (t / B)]
    rw [this, ← Int.add_mul]; congr 1; omega
  have c5 : t * (B : Int) ^ i = c * (B : Int) ^ i + q * (g i * (B : Int) ^ i) := by rw [ht, Int.add_mul, Int.mul_assoc]
  simp only [val]
  rw [Int.mul_add]
  omega

theorem carry_bound (a t : Int) (ha0 : 0 ≤ a) (ha : a < 4294967296) (ht0 : 0 ≤ t) (ht : t ≤ 18446744069414584320) :
    0 ≤ t / 4294967296 + (0 - (a - t % 4294967296) / 4294967296) ∧ t / 4294967296 + (0 - (a - t % 4294967296) / 4294967296) < 4294967296 := by omega

/-- The limb was right. -/
theorem step_right (R D q V rn c P : Int) (hD : 0 < D) (hDP : D ≤ P) (h1 : R < (q + 1) * D) (hV0 : 0 ≤ V) (hv : R - q * D = V + (rn - c) * P) (hc : c ≤ rn) : q = R / D ∧ V = R % D := by
  have hP : 0 < P := by omega
  have e0 : (q + 1) * D = q * D + D := by rw [Int.add_mul, Int.one_mul]
  have hrc : rn - c = 0 := by
    by_cases z : rn - c = 0
    · exact z
    · have := Int.mul_le_mul_of_nonneg_right (show 1 ≤ rn - c by omega) (Int.le_of_lt hP)
      rw [Int.one_mul] at this; omega
  rw [hrc, Int.zero_mul] at hv
  have hR : R = V + q * D := by omega
  refine ⟨?_, ?_⟩
  · rw [hR, Int.add_mul_ediv_right _ _ (by omega), Int.ediv_eq_zero_of_lt hV0 (by omega)]; omega
  · rw [hR, Int.add_mul_emod_self_right, Int.emod_eq_of_lt hV0 (by omega)]

/-- The limb was one too great: the divisor is given back. -/
theorem step_back (R D q V V2 rn c cr P : Int) (hD : 0 < D) (hDP : D ≤ P) (h1 : q * D < R + D) (hV1 : V < P) (hV20 : 0 ≤ V2) (hV21 : V2 < P) (hv : R - q * D = V + (rn - c) * P) (hc : rn < c) (h2 : V2 + cr * P = V + D) : q - 1 = R / D ∧ V2 = R % D := by
  have hP : 0 < P := by omega
  have a1 : (rn - c) * P ≤ -1 * P := Int.mul_le_mul_of_nonneg_right (by omega) (Int.le_of_lt hP)
  have e0 : (q - 1) * D = q * D - D := by rw [Int.sub_mul, Int.one_mul]
  have hs : R - (q - 1) * D = V2 + (cr + (rn - c)) * P := by rw [Int.add_mul]; omega
  have hz : cr + (rn - c) = 0 := by
    by_cases z : cr + (rn - c) = 0
    · exact z
    · by_cases y : 0 < cr + (rn - c)
      · have := Int.mul_le_mul_of_nonneg_right (show 1 ≤ cr + (rn - c) by omega) (Int.le_of_lt hP)
        rw [Int.one_mul] at this; omega
      · have := Int.mul_le_mul_of_nonneg_right (show cr + (rn - c) ≤ -1 by omega) (Int.le_of_lt hP)
        omega
  rw [hz, Int.zero_mul] at hs
  have hlt : V2 < D := by omega
  have hR : R = V2 + (q - 1) * D := by omega
  refine ⟨?_, ?_⟩
  · rw [hR, Int.add_mul_ediv_right _ _ (by omega), Int.ediv_eq_zero_of_lt hV20 hlt]; omega
  · rw [hR, Int.add_mul_emod_self_right, Int.emod_eq_of_lt hV20 hlt]

theorem wrap_diff2 (a b : Int) (ha0 : 0 ≤ a) (ha : a < 4294967296) (hb0 : 0 ≤ b) (hb : b < 4294967296) :
    bits .and .u64 (IntKind.u64.wrap (a - b)) 4294967295 = (a - b) % 4294967296 ∧ IntKind.u64.wrap (a - b) / 9223372036854775808 = 0 - (a - b) / 4294967296 := by
  have e : IntKind.u64.wrap (a - b) = (a - b) % 18446744073709551616 := IntKind.wrap_u64 _
  rw [e, and_mask _ (by omega) (by omega)]
  constructor <;> omega

set_option maxRecDepth 20000 in
set_option maxHeartbeats 2000000 in
theorem divStep_any (gr or_ cr gb ob cb m : Nat) (fr fb : Nat → Int) (w : World) (hm : m ≤ 1000000) (hcap : m + 3 ≤ cr) (hr : Cells w .u64 gr or_ (m + 3) fr) (hs : Soft w gr or_ (m + 3)) (hb : Cells w .u64 gb ob (m + 2) fb) (hcb : m + 2 ≤ cb) (hne : gb ≠ gr)
    (ur : U32 (m + 3) fr) (ub : U32 (m + 2) fb) (htop : 2147483648 ≤ fb (m + 1)) (hfit : val W32 fr (m + 3) < val W32 fb (m + 2) * 4294967296) :
    Calls Tryd.prog 81 #[.slice (some ⟨gr, or_, none⟩) (m + 3) cr, .slice (some ⟨gb, ob, none⟩) (m + 2) cb] w fun e w' =>
      e = .returned (.int .u64 (val W32 fr (m + 3) / val W32 fb (m + 2))) ∧ ∃ h : Nat → Int, Cells w' .u64 gr or_ (m + 2) h ∧ U32 (m + 2) h ∧ val W32 h (m + 2) = val W32 fr (m + 3) % val W32 fb (m + 2) ∧ Upd w w' gr or_ (m + 2) := by
  have hgr := hr.lt (show 0 < m + 3 by omega)
  have K := kn_rows m fb fr ub ur htop hfit
  have HDp : Hid (0 < val W32 fb (m + 2)) := K.Dpos
  have HDP : Hid (val W32 fb (m + 2) ≤ (W32 : Int) ^ (m + 2)) := Int.le_of_lt (val_bounds W32 fb (m + 2) ub).2
  have HR : Hid (val W32 fr (m + 3) = val W32 fr (m + 2) + fr (m + 2) * (W32 : Int) ^ (m + 2)) := rfl
  go_enter Tryd.func81, Tryd.ntmps81
  go_wp2_with fail
  refine (guess_any gr or_ cr gb ob cb m fr fb w hm hr hb ur ub htop hfit).mono ?_
  rintro e w1 ⟨q, rfl, ⟨hq0, hq1, hql, hqu⟩, hb1⟩
  have HQL : Hid (val W32 fr (m + 3) < (q + 1) * val W32 fb (m + 2)) := hql
  have HQU : Hid (q * val W32 fb (m + 2) < val W32 fr (m + 3) + val W32 fb (m + 2)) := hqu
  have hgb := hb.lt (show 0 < m + 2 by omega)
  have hr1 := hr.below hb1 hgr
  have hs1 := hs.below hb1 hgr
  have hb1' := hb.below hb1 hgb
  have hu1 : Upd w w1 gr or_ (m + 2) := Upd.of_below hb1 hgr
  clear hql hqu K htop hfit hr hs hb
  go_wp2
  have hrt := hr1 (m + 2) (by omega)
  have hrw : Cells w1 .u64 gr or_ (m + 2) fr := hr1.mono (by omega)
  have urw : U32 (m + 2) fr := fun i hi => ur i (by omega)
  have hsw : Soft w1 gr or_ (m + 2) := hs1.mono (by omega)
  have hgr1 := hrw.lt (show 0 < m + 2 by omega)
  have urt := ur (m + 2) (by omega)
  rw [W32c] at urt
  clear hr1 hs1 hu1
  go_loopw [7, 22] (fun vc vi wr => ∃ (i : Nat) (c : Int) (h : Nat → Int), i ≤ m + 2 ∧ vc = .int .u64 c ∧ vi = .int .i64 (i : Int) ∧ 0 ≤ c ∧ c < 4294967296 ∧ Cells wr .u64 gr or_ (m + 2) h ∧ U32 (m + 2) h ∧
      val W32 h (m + 2) - c * (W32 : Int) ^ i = val W32 fr (m + 2) - q * val W32 fb i ∧ Upd w1 wr gr or_ (m + 2)) (fun _ vi _ => m + 2 - (intOf vi).toNat)
  case atStart => exact ⟨0, 0, fr, Nat.zero_le _, rfl, rfl, Int.le_refl _, by decide, hrw, urw, by simp [val], Upd.refl _ _ _ _⟩
  case round =>
    obtain ⟨i, c, h, hi, rfl, rfl, hc0, hc1, hch, huh, hval, hupd⟩ := hrel
    have HV : Hid (val W32 h (m + 2) - c * (W32 : Int) ^ i = val W32 fr (m + 2) - q * val W32 fb i) := hval
    clear hval
    by_cases hlt : i < m + 2
    · have hcb : wr.cell? ⟨gb, ob + i, none⟩ = some (.int .u64 (fb i)) := (hb1'.upd hupd (.inl hne)) i hlt
      have hca := hch i hlt
      have hfr := (hsw.upd hgr1 hupd) i hlt
      have bx := ub i hlt
      have bh := huh i hlt
      rw [W32c] at bx bh
      have hxy := mul_le_mul32 q (fb i) hq0 hq1 bx.1 bx.2
      have hqx := Int.mul_nonneg hq0 bx.1
      have hm := and_mask (c + q * fb i) (by omega) (by omega)
      obtain ⟨hm2, hq2⟩ := wrap_diff2 (h i) ((c + q * fb i) % 4294967296) bh.1 bh.2 (by omega) (by omega)
      have hcb2 := carry_bound (h i) (c + q * fb i) bh.1 bh.2 (by omega) (by omega)
      have hmm : (h i - (c + q * fb i) % (W32 : Int)) % (W32 : Int) = (h i - (c + q * fb i)) % (W32 : Int) := by rw [W32c]; omega
      have HMM := show Hid ((h i - (c + q * fb i) % (W32 : Int)) % (W32 : Int) = (h i - (c + q * fb i)) % (W32 : Int)) from hmm
      clear hmm
      go_wp2
      go_roundw
      case rel =>
        refine ⟨i + 1, (c + q * fb i) / (W32 : Int) + (0 - (h i - (c + q * fb i) % (W32 : Int)) / (W32 : Int)), put h i ((h i - (c + q * fb i)) % (W32 : Int)), by omega, ?_, by go_num, by rw [W32c]; exact hcb2.1, by rw [W32c]; exact hcb2.2, hch.set i (by omega) _, put_bounds huh (by rw [W32c]; omega) (by rw [W32c]; omega), ?_, ?_⟩
        · rw [W32c, Int.zero_sub]
        · rw [← HMM.out]; exact sub_step W32 h fb (m + 2) i c q _ _ (by omega) rfl HV.out
        · exact hupd.trans (Upd.set i (by omega) _)
      case measure => simp [intOf]; omega
    · have hib : i = m + 2 := by omega
      subst hib
      have hrt' : wr.cell? ⟨gr, or_ + (m + 2), none⟩ = some (.int .u64 (fr (m + 2))) := (hupd.cell _ (by omega)).trans hrt
      have hbnd := val_bounds W32 h (m + 2) huh
      have hkey : val W32 fr (m + 3) - q * val W32 fb (m + 2) = val W32 h (m + 2) + (fr (m + 2) - c) * (W32 : Int) ^ (m + 2) := by
        have h1 := HV.out
        have h2 := HR.out
        rw [Int.sub_mul]; omega
      have HK : Hid (val W32 fr (m + 3) - q * val W32 fb (m + 2) = val W32 h (m + 2) + (fr (m + 2) - c) * (W32 : Int) ^ (m + 2)) := hkey
      clear hkey
      by_cases hcm : c ≤ fr (m + 2)
      · obtain ⟨s1, s2⟩ := step_right _ _ q _ (fr (m + 2)) c _ HDp.out HDP.out HQL.out hbnd.1 HK.out hcm
        have S1 : Hid (q = val W32 fr (m + 3) / val W32 fb (m + 2)) := s1
        have S2 : Hid (val W32 h (m + 2) = val W32 fr (m + 3) % val W32 fb (m + 2)) := s2
        clear s1 s2 hbnd
        go_wp2
        go_ret
        exact ⟨ret_int S1.out, h, hch, huh, S2.out, (Upd.of_below hb1 hgr).trans hupd⟩
      · have hbr : Nums .u64 wr (.slice (some ⟨gb, ob, none⟩) (m + 2) cb) (m + 2) fb := ⟨_, _, rfl, hcb, by unfold LIM; omega, fun _ => ⟨_, _, rfl, hb1'.upd hupd (.inl hne)⟩⟩
        have HB : Hid (val W32 h (m + 2) < (W32 : Int) ^ (m + 2)) := hbnd.2
        clear hbnd
        go_wp2_with fail
        refine (addLimbs_any gr or_ (m + 2) cr _ (m + 2) h fb wr (by unfold LIM; omega) (Nat.le_refl _) hch (hsw.upd hgr1 hupd) huh hbr ub (fun _ b o c e => by injection e with e1; injection e1 with e2; injection e2 with e3; omega)).mono ?_
        rintro e w2 ⟨k, h2, rfl, hk0, hk1, hc2, hu2, _, hv2, hup2⟩
        have hb2 := val_bounds W32 h2 (m + 2) hu2
        obtain ⟨s1, s2⟩ := step_back _ _ q _ _ (fr (m + 2)) c k _ HDp.out HDP.out HQU.out HB.out hb2.1 hb2.2 HK.out (by omega) hv2
        have S1 : Hid (q - 1 = val W32 fr (m + 3) / val W32 fb (m + 2)) := s1
        have S2 : Hid (val W32 h2 (m + 2) = val W32 fr (m + 3) % val W32 fb (m + 2)) := s2
        have hq1' : 0 ≤ q - 1 := by
          have h1 : 0 ≤ val W32 fr (m + 3) := (val_bounds W32 fr (m + 3) ur).1
          rw [s1]; exact Int.ediv_nonneg h1 (Int.le_of_lt HDp.out)
        clear s1 s2 hv2 hb2
        go_wp2
        go_ret
        exact ⟨ret_int S1.out, h2, hc2, hu2, S2.out, ((Upd.of_below hb1 hgr).trans hupd).trans hup2⟩

end Go.Proofs.YthhabammejkjcaaDoor
