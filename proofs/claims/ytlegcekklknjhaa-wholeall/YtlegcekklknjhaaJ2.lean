/-
  Texts of mine, joined: what lies beneath the statement.
-/
import Derived.Test.YtlegcekklknjhaaJ1
import Derived.WalkSmall
/-
  What nat.guessLimb answers: a limb of a quotient, right or 1 too great.
-/
namespace Go.Proofs.Ytlegcekklknjhaa
open Go.RowKit

set_option maxRecDepth 20000 in
set_option maxHeartbeats 2000000 in
theorem guess_any (gr or_ cr gb ob cb m : Nat) (fr fb : Nat → Int) (w : World) (hm : m ≤ 1000000) (hr : Cells w .u64 gr or_ (m + 3) fr) (hb : Cells w .u64 gb ob (m + 2) fb)
    (ur : U32 (m + 3) fr) (ub : U32 (m + 2) fb) (htop : 2147483648 ≤ fb (m + 1)) (hfit : val W32 fr (m + 3) < val W32 fb (m + 2) * 4294967296) :
    Calls Try.prog 75 #[.slice (some ⟨gr, or_, none⟩) (m + 3) cr, .slice (some ⟨gb, ob, none⟩) (m + 2) cb] w fun e w' =>
      ∃ q : Int, e = .returned (.int .u64 q) ∧ (0 ≤ q ∧ q < 4294967296 ∧ val W32 fr (m + 3) < (q + 1) * val W32 fb (m + 2) ∧ q * val W32 fb (m + 2) < val W32 fr (m + 3) + val W32 fb (m + 2)) ∧ Below w.heap.size w w' := by
  have K := kn_rows m fb fr ub ur htop hfit
  have r0 := hr m (by omega)
  have r1 := hr (m + 1) (by omega)
  have r2 := hr (m + 2) (by omega)
  have b0 := hb m (by omega)
  have b1 := hb (m + 1) (by omega)
  have u0 := ur m (by omega)
  have u1 := ur (m + 1) (by omega)
  have u2 := ur (m + 2) (by omega)
  have hrn := K.top rfl u1.1 u1.2
  rw [W32c] at u0 u1 u2
  have HK : Hid (Kn (fb (m + 1)) (fb m) (fr (m + 2) * 4294967296 + fr (m + 1)) (fr m) ((W32 : Int) ^ m) (val W32 fb (m + 2)) (val W32 fr (m + 3))) := K
  have kh0 := K.h0
  have kh1 := K.h1
  have kg0 := K.g0
  have kg1 := K.g1
  clear K hr hb htop hfit ur ub
  generalize val W32 fr (m + 3) = R at *
  generalize val W32 fb (m + 2) = D at *
  generalize fb (m + 1) = h at *
  generalize fb m = g at *
  generalize fr (m + 2) = rn at *
  generalize fr (m + 1) = rm at *
  generalize fr m = e at *
  have hor := or_join' rn rm u2.1 u2.2 u1.1 u1.2
  have hw3 : IntKind.u64.wrap (rn * 4294967296) = rn * 4294967296 := by rw [IntKind.wrap_u64]; omega
  have hT0 : 0 ≤ rn * 4294967296 + rm := by omega
  have hT1 : rn * 4294967296 + rm < 18446744073709551616 := by omega
  have i1 : ((m : Int) + 2 - 1) = (m : Int) + 1 := by omega
  have i2 : ((m : Int) + 2 - 2) = (m : Int) := by omega
  go_enter Try.func75, Try.ntmps75
  go_wp2
  go_quiet (fail)
  go_wp2
  go_quiet (fail)
  go_wp2
  generalize hT : rn * 4294967296 + rm = T at *
  have hne : ¬ h = 0 := by omega
  have htm : T.tmod h = T % h := Int.tmod_eq_emod_of_nonneg hT0
  have htd := wrap_tdiv T h hT0 hT1 (by omega)
  go_quiet (fail)
  generalize hWw : ((w.drewN _).drewN _).drewN _ = w3
  have hbw : Below w.heap.size w w3 := by rw [← hWw]; exact below_drewN (below_drewN (below_drewN (Below.refl _ _) _) _) _
  have hTb : T ≤ h * 4294967296 + 4294967295 := by omega
  have hq0 : 0 ≤ T / h := Int.ediv_nonneg hT0 (by omega)
  have hdm : Hid (T / h * h + T % h = T) := by show _ = _; have := Int.emod_add_mul_ediv T h; rw [Int.mul_comm]; omega
  have hm0 : 0 ≤ T % h := Int.emod_nonneg _ hne
  have hm1 : T % h < h := Int.emod_lt_of_pos _ (by omega)
  have hst : Hid (R < (T / h + 1) * D) := HK.out.start
  have hqb : T / h ≤ 4294967297 := by
    have : T / h < 4294967298 := Int.ediv_lt_of_lt_mul (by omega) (by omega)
    omega
  have hgr : gr < w.heap.size := World.block_lt_of_cell? _ _ r0
  have HR0 : Hid (w.cell? ⟨gr, or_ + m, none⟩ = some (.int .u64 e)) := r0
  clear htm htd hor hw3 r1 r2 b0 b1 r0 hWw hT
  generalize T / h = q0 at *
  generalize T % h = r0' at *
  go_wp2
  go_loopw [9, 10] (fun vq vr wr => ∃ (q r : Int), vq = .int .u64 q ∧ vr = .int .u64 r ∧ 0 ≤ q ∧ q ≤ 4294967297 ∧ q * h + r = T ∧ 0 ≤ r ∧ r < 4294967296 ∧ R < (q + 1) * D ∧ Below w.heap.size w wr) (fun vq _ _ => (intOf vq).toNat)
  case atStart => exact ⟨q0, r0', rfl, rfl, hq0, hqb, hdm.out, hm0, by omega, hst.out, hbw⟩
  case round =>
    clear hq0 hqb hdm hm0 hm1 hst hbw
    obtain ⟨q, r, rfl, rfl, hq0, hqb, hdm, hr0, hr1, hlt, hbel⟩ := hrel
    have HDM : Hid (q * h + r = T) := hdm
    have HLT : Hid (R < (q + 1) * D) := hlt
    have hcell : wr.cell? ⟨gr, or_ + m, none⟩ = some (.int .u64 e) := (hbel.cell (by exact hgr)).trans HR0.out
    have hstep : Hid ((q - 1) * h + (r + h) = T) := by show _ = _; rw [Int.sub_mul, Int.one_mul]; omega
    clear hdm hlt
    by_cases hbig : 4294967295 < q
    · have hlt' : Hid (R < (q - 1 + 1) * D) := by show R < _; rw [Int.sub_add_cancel]; exact HK.out.big (by omega)
      by_cases hbr : 4294967295 < r + h
      · have hq1 : q < 4294967297 := by
          by_cases c : q < 4294967297
          · exact c
          · exfalso
            have e1 : q = 4294967297 := by omega
            have e2 := HDM.out
            rw [e1] at e2; omega
        go_wp2
        go_ret
        refine ⟨q - 1, rfl, ⟨by omega, by omega, hlt'.out, ?_⟩, hbel⟩
        exact HK.out.done (q := q - 1) (r := r + h) (by omega) (by omega) hstep.out (by
          have := mul_le_mul32 (q - 1) g (by omega) (by omega) kg0 kg1; omega)
      · go_wp2
        go_roundw
        case rel => exact ⟨q - 1, r + h, rfl, rfl, by omega, by omega, hstep.out, by omega, by omega, hlt'.out, hbel⟩
        case measure => simp [intOf]; omega
    · have hqd : decide (4294967295 < q) = false := by simp; omega
      have hxy := mul_le_mul32 q g hq0 (by omega) kg0 kg1
      have hor2 := or_join' r e hr0 hr1 u0.1 u0.2
      by_cases htest : r * 4294967296 + e < q * g
      · have hqp : 0 < q := by
          by_cases c : q = 0
          · rw [c, Int.zero_mul] at htest; omega
          · omega
        have hlt' : Hid (R < (q - 1 + 1) * D) := by show R < _; rw [Int.sub_add_cancel]; exact HK.out.test hq0 HDM.out htest
        by_cases hbr : 4294967295 < r + h
        · go_wp2
          go_ret
          refine ⟨q - 1, rfl, ⟨by omega, by omega, hlt'.out, ?_⟩, hbel⟩
          exact HK.out.done (q := q - 1) (r := r + h) (by omega) (by omega) hstep.out (by
            have := mul_le_mul32 (q - 1) g (by omega) (by omega) kg0 kg1; omega)
        · go_wp2
          go_roundw
          case rel => exact ⟨q - 1, r + h, rfl, rfl, by omega, by omega, hstep.out, by omega, by omega, hlt'.out, hbel⟩
          case measure => simp [intOf]; omega
      · go_wp2
        go_ret
        exact ⟨q, rfl, ⟨hq0, by omega, HLT.out, HK.out.done hq0 (by omega) HDM.out (by omega)⟩, hbel⟩

end Go.Proofs.Ytlegcekklknjhaa

/-
  What nat.divideStep leaves and answers: one limb of a quotient, and what is left.
-/
namespace Go.Proofs.Ytlegcekklknjhaa
open Go.RowKit

theorem sub_step (B : Nat) (h g : Nat → Int) (N i : Nat) (c q t S : Int) (hi : i < N) (ht : t = c + q * g i) (hv : val B h N - c * (B : Int) ^ i = S - q * val B g i) :
    val B (put h i ((h i - t % B) % B)) N - (t / B + (0 - (h i - t % B) / B)) * (B : Int) ^ (i + 1) = S - q * val B g (i + 1) := by
  have e1 : (B : Int) ^ (i + 1) = (B : Int) ^ i * B := Int.pow_succ _ _
  have f1 := Int.emod_add_mul_ediv t B
  rw [val_put B h N i _ hi, e1]
  have c1 := carry_step (B : Int) (h i - t % B) (h i) ((B : Int) ^ i) (val B h N)
  generalize (h i - t % (B : Int)) / (B : Int) = z at *
  generalize (h i - t % (B : Int)) % (B : Int) = y at *
  have c2 : (t / B + (0 - z)) * ((B : Int) ^ i * B) = t / B * ((B : Int) ^ i * B) - z * ((B : Int) ^ i * B) := by
    rw [Int.add_mul, Int.sub_mul, Int.zero_mul]; omega
  have c3 : (h i - t % B - h i) * (B : Int) ^ i = 0 - t % B * (B : Int) ^ i := by
    rw [show h i - t % B - h i = 0 - t % B by omega, Int.sub_mul, Int.zero_mul]
  have c4 : t / B * ((B : Int) ^ i * B) + t % B * (B : Int) ^ i = t * (B : Int) ^ i := by
    have : t / B * ((B : Int) ^ i * B) = B * (t / B) * (B : Int) ^ i := by rw [Int.mul_comm ((B : Int) ^ i), ← Int.mul_assoc, Int.mul_comm (t / B)]
    rw [this, ← Int.add_mul]; congr 1; omega
  have c5 : t * (B : Int) ^ i = c * (B : Int) ^ i + q * (g i * (B : Int) ^ i) := by rw [ht, Int.add_mul, Int.mul_assoc]
  simp only [val]
  rw [Int.mul_add]
  omega

theorem carry_bound (a t : Int) (ha0 : 0 ≤ a) (ha : a < 4294967296) (ht0 : 0 ≤ t) (ht : t ≤ 18446744069414584320) :
    0 ≤ t / 4294967296 + (0 - (a - t % 4294967296) / 4294967296) ∧ t / 4294967296 + (0 - (a - t % 4294967296) / 4294967296) < 4294967296 := by omega

/-- The limb was right. -/
theorem step_right (R D q V rn c P : Int) (hD : 0 < D) (hDP : D ≤ P) (h1 : R < (q + 1) * D) (hV0 : 0 ≤ V) (hv : R - q * D = V + (rn - c) * P) (hc : c ≤ rn) : q = R / D ∧ V = R % D := by
  have hP : 0 < P := by omega
  have e0 : (q + 1) * D = q * D + D := by rw [Int.add_mul, Int.one_mul]
  have hrc : rn - c = 0 := by
    by_cases z : rn - c = 0
    · exact z
    · have := Int.mul_le_mul_of_nonneg_right (show 1 ≤ rn - c by omega) (Int.le_of_lt hP)
      rw [Int.one_mul] at this; omega
  rw [hrc, Int.zero_mul] at hv
  have hR : R = V + q * D := by omega
  refine ⟨?_, ?_⟩
  · rw [hR, Int.add_mul_ediv_right _ _ (by omega), Int.ediv_eq_zero_of_lt hV0 (by omega)]; omega
  · rw [hR, Int.add_mul_emod_self_right, Int.emod_eq_of_lt hV0 (by omega)]

/-- The limb was one too great: the divisor is given back. -/
theorem step_back (R D q V V2 rn c cr P : Int) (hD : 0 < D) (hDP : D ≤ P) (h1 : q * D < R + D) (hV1 : V < P) (hV20 : 0 ≤ V2) (hV21 : V2 < P) (hv : R - q * D = V + (rn - c) * P) (hc : rn < c) (h2 : V2 + cr * P = V + D) : q - 1 = R / D ∧ V2 = R % D := by
  have hP : 0 < P := by omega
  have a1 : (rn - c) * P ≤ -1 * P := Int.mul_le_mul_of_nonneg_right (by omega) (Int.le_of_lt hP)
  have e0 : (q - 1) * D = q * D - D := by rw [Int.sub_mul, Int.one_mul]
  have hs : R - (q - 1) * D = V2 + (cr + (rn - c)) * P := by rw [Int.add_mul]; omega
  have hz : cr + (rn - c) = 0 := by
    by_cases z : cr + (rn - c) = 0
    · exact z
    · by_cases y : 0 < cr + (rn - c)
      · have := Int.mul_le_mul_of_nonneg_right (show 1 ≤ cr + (rn - c) by omega) (Int.le_of_lt hP)
        rw [Int.one_mul] at this; omega
      · have := Int.mul_le_mul_of_nonneg_right (show cr + (rn - c) ≤ -1 by omega) (Int.le_of_lt hP)
        omega
  rw [hz, Int.zero_mul] at hs
  have hlt : V2 < D := by omega
  have hR : R = V2 + (q - 1) * D := by omega
  refine ⟨?_, ?_⟩
  · rw [hR, Int.add_mul_ediv_right _ _ (by omega), Int.ediv_eq_zero_of_lt hV20 hlt]; omega
  · rw [hR, Int.add_mul_emod_self_right, Int.emod_eq_of_lt hV20 hlt]

theorem wrap_diff2 (a b : Int) (ha0 : 0 ≤ a) (ha : a < 4294967296) (hb0 : 0 ≤ b) (hb : b < 4294967296) :
    bits .and .u64 (IntKind.u64.wrap (a - b)) 4294967295 = (a - b) % 4294967296 ∧ IntKind.u64.wrap (a - b) / 9223372036854775808 = 0 - (a - b) / 4294967296 := by
  have e : IntKind.u64.wrap (a - b) = (a - b) % 18446744073709551616 := IntKind.wrap_u64 _
  rw [e, and_mask _ (by omega) (by omega)]
  constructor <;> omega

set_option maxRecDepth 20000 in
set_option maxHeartbeats 2000000 in
theorem divStep_any (gr or_ cr gb ob cb m : Nat) (fr fb : Nat → Int) (w : World) (hm : m ≤ 1000000) (hcap : m + 3 ≤ cr) (hr : Cells w .u64 gr or_ (m + 3) fr) (hs : Soft w gr or_ (m + 3)) (hb : Cells w .u64 gb ob (m + 2) fb) (hcb : m + 2 ≤ cb) (hne : gb ≠ gr)
    (ur : U32 (m + 3) fr) (ub : U32 (m + 2) fb) (htop : 2147483648 ≤ fb (m + 1)) (hfit : val W32 fr (m + 3) < val W32 fb (m + 2) * 4294967296) :
    Calls Try.prog 70 #[.slice (some ⟨gr, or_, none⟩) (m + 3) cr, .slice (some ⟨gb, ob, none⟩) (m + 2) cb] w fun e w' =>
      e = .returned (.int .u64 (val W32 fr (m + 3) / val W32 fb (m + 2))) ∧ ∃ h : Nat → Int, Cells w' .u64 gr or_ (m + 2) h ∧ U32 (m + 2) h ∧ val W32 h (m + 2) = val W32 fr (m + 3) % val W32 fb (m + 2) ∧ Upd w w' gr or_ (m + 2) := by
  have hgr := hr.lt (show 0 < m + 3 by omega)
  have K := kn_rows m fb fr ub ur htop hfit
  have HDp : Hid (0 < val W32 fb (m + 2)) := K.Dpos
  have HDP : Hid (val W32 fb (m + 2) ≤ (W32 : Int) ^ (m + 2)) := Int.le_of_lt (val_bounds W32 fb (m + 2) ub).2
  have HR : Hid (val W32 fr (m + 3) = val W32 fr (m + 2) + fr (m + 2) * (W32 : Int) ^ (m + 2)) := rfl
  go_enter Try.func70, Try.ntmps70
  go_wp2_with fail
  refine (guess_any gr or_ cr gb ob cb m fr fb w hm hr hb ur ub htop hfit).mono ?_
  rintro e w1 ⟨q, rfl, ⟨hq0, hq1, hql, hqu⟩, hb1⟩
  have HQL : Hid (val W32 fr (m + 3) < (q + 1) * val W32 fb (m + 2)) := hql
  have HQU : Hid (q * val W32 fb (m + 2) < val W32 fr (m + 3) + val W32 fb (m + 2)) := hqu
  have hgb := hb.lt (show 0 < m + 2 by omega)
  have hr1 := hr.below hb1 hgr
  have hs1 := hs.below hb1 hgr
  have hb1' := hb.below hb1 hgb
  have hu1 : Upd w w1 gr or_ (m + 2) := Upd.of_below hb1 hgr
  clear hql hqu K htop hfit hr hs hb
  go_wp2
  have hrt := hr1 (m + 2) (by omega)
  have hrw : Cells w1 .u64 gr or_ (m + 2) fr := hr1.mono (by omega)
  have urw : U32 (m + 2) fr := fun i hi => ur i (by omega)
  have hsw : Soft w1 gr or_ (m + 2) := hs1.mono (by omega)
  have hgr1 := hrw.lt (show 0 < m + 2 by omega)
  have urt := ur (m + 2) (by omega)
  rw [W32c] at urt
  clear hr1 hs1 hu1
  go_loopw [7, 22] (fun vc vi wr => ∃ (i : Nat) (c : Int) (h : Nat → Int), i ≤ m + 2 ∧ vc = .int .u64 c ∧ vi = .int .i64 (i : Int) ∧ 0 ≤ c ∧ c < 4294967296 ∧ Cells wr .u64 gr or_ (m + 2) h ∧ U32 (m + 2) h ∧
      val W32 h (m + 2) - c * (W32 : Int) ^ i = val W32 fr (m + 2) - q * val W32 fb i ∧ Upd w1 wr gr or_ (m + 2)) (fun _ vi _ => m + 2 - (intOf vi).toNat)
  case atStart => exact ⟨0, 0, fr, Nat.zero_le _, rfl, rfl, Int.le_refl _, by decide, hrw, urw, by simp [val], Upd.refl _ _ _ _⟩
  case round =>
    obtain ⟨i, c, h, hi, rfl, rfl, hc0, hc1, hch, huh, hval, hupd⟩ := hrel
    have HV : Hid (val W32 h (m + 2) - c * (W32 : Int) ^ i = val W32 fr (m + 2) - q * val W32 fb i) := hval
    clear hval
    by_cases hlt : i < m + 2
    · have hcb : wr.cell? ⟨gb, ob + i, none⟩ = some (.int .u64 (fb i)) := (hb1'.upd hupd (.inl hne)) i hlt
      have hca := hch i hlt
      have hfr := (hsw.upd hgr1 hupd) i hlt
      have bx := ub i hlt
      have bh := huh i hlt
      rw [W32c] at bx bh
      have hxy := mul_le_mul32 q (fb i) hq0 hq1 bx.1 bx.2
      have hqx := Int.mul_nonneg hq0 bx.1
      have hm := and_mask (c + q * fb i) (by omega) (by omega)
      obtain ⟨hm2, hq2⟩ := wrap_diff2 (h i) ((c + q * fb i) % 4294967296) bh.1 bh.2 (by omega) (by omega)
      have hcb2 := carry_bound (h i) (c + q * fb i) bh.1 bh.2 (by omega) (by omega)
      have hmm : (h i - (c + q * fb i) % (W32 : Int)) % (W32 : Int) = (h i - (c + q * fb i)) % (W32 : Int) := by rw [W32c]; omega
      have HMM := show Hid ((h i - (c + q * fb i) % (W32 : Int)) % (W32 : Int) = (h i - (c + q * fb i)) % (W32 : Int)) from hmm
      clear hmm
      go_wp2
      go_roundw
      case rel =>
        refine ⟨i + 1, (c + q * fb i) / (W32 : Int) + (0 - (h i - (c + q * fb i) % (W32 : Int)) / (W32 : Int)), put h i ((h i - (c + q * fb i)) % (W32 : Int)), by omega, ?_, by go_num, by rw [W32c]; exact hcb2.1, by rw [W32c]; exact hcb2.2, hch.set i (by omega) _, put_bounds huh (by rw [W32c]; omega) (by rw [W32c]; omega), ?_, ?_⟩
        · rw [W32c, Int.zero_sub]
        · rw [← HMM.out]; exact sub_step W32 h fb (m + 2) i c q _ _ (by omega) rfl HV.out
        · exact hupd.trans (Upd.set i (by omega) _)
      case measure => simp [intOf]; omega
    · have hib : i = m + 2 := by omega
      subst hib
      have hrt' : wr.cell? ⟨gr, or_ + (m + 2), none⟩ = some (.int .u64 (fr (m + 2))) := (hupd.cell _ (by omega)).trans hrt
      have hbnd := val_bounds W32 h (m + 2) huh
      have hkey : val W32 fr (m + 3) - q * val W32 fb (m + 2) = val W32 h (m + 2) + (fr (m + 2) - c) * (W32 : Int) ^ (m + 2) := by
        have h1 := HV.out
        have h2 := HR.out
        rw [Int.sub_mul]; omega
      have HK : Hid (val W32 fr (m + 3) - q * val W32 fb (m + 2) = val W32 h (m + 2) + (fr (m + 2) - c) * (W32 : Int) ^ (m + 2)) := hkey
      clear hkey
      by_cases hcm : c ≤ fr (m + 2)
      · obtain ⟨s1, s2⟩ := step_right _ _ q _ (fr (m + 2)) c _ HDp.out HDP.out HQL.out hbnd.1 HK.out hcm
        have S1 : Hid (q = val W32 fr (m + 3) / val W32 fb (m + 2)) := s1
        have S2 : Hid (val W32 h (m + 2) = val W32 fr (m + 3) % val W32 fb (m + 2)) := s2
        clear s1 s2 hbnd
        go_wp2
        go_ret
        exact ⟨ret_int S1.out, h, hch, huh, S2.out, (Upd.of_below hb1 hgr).trans hupd⟩
      · have hbr : Nums .u64 wr (.slice (some ⟨gb, ob, none⟩) (m + 2) cb) (m + 2) fb := ⟨_, _, rfl, hcb, by unfold LIM; omega, fun _ => ⟨_, _, rfl, hb1'.upd hupd (.inl hne)⟩⟩
        have HB : Hid (val W32 h (m + 2) < (W32 : Int) ^ (m + 2)) := hbnd.2
        clear hbnd
        go_wp2_with fail
        refine (addLimbs_any gr or_ (m + 2) cr _ (m + 2) h fb wr (by unfold LIM; omega) (Nat.le_refl _) hch (hsw.upd hgr1 hupd) huh hbr ub (fun _ b o c e => by injection e with e1; injection e1 with e2; injection e2 with e3; omega)).mono ?_
        rintro e w2 ⟨k, h2, rfl, hk0, hk1, hc2, hu2, _, hv2, hup2⟩
        have hb2 := val_bounds W32 h2 (m + 2) hu2
        obtain ⟨s1, s2⟩ := step_back _ _ q _ _ (fr (m + 2)) c k _ HDp.out HDP.out HQU.out HB.out hb2.1 hb2.2 HK.out (by omega) hv2
        have S1 : Hid (q - 1 = val W32 fr (m + 3) / val W32 fb (m + 2)) := s1
        have S2 : Hid (val W32 h2 (m + 2) = val W32 fr (m + 3) % val W32 fb (m + 2)) := s2
        have hq1' : 0 ≤ q - 1 := by
          have h1 : 0 ≤ val W32 fr (m + 3) := (val_bounds W32 fr (m + 3) ur).1
          rw [s1]; exact Int.ediv_nonneg h1 (Int.le_of_lt HDp.out)
        clear s1 s2 hv2 hb2
        go_wp2
        go_ret
        exact ⟨ret_int S1.out, h2, hc2, hu2, S2.out, ((Upd.of_below hb1 hgr).trans hupd).trans hup2⟩

end Go.Proofs.Ytlegcekklknjhaa

/-
  What nat.divideLong answers: quotient and rest by a number of two limbs or more.
-/
namespace Go.Proofs.Ytlegcekklknjhaa
open Go.RowKit

/-- Shifted up so far that its highest bit is set, a number keeps its limbs' count. -/
theorem norm_num (y m s : Nat) (hm : nl W32 y = m + 2) (hs : s = 32 - Lib.bitLen (dg W32 y (m + 1)).toNat) :
    s ≤ 31 ∧ Lib.bitLen (dg W32 y (m + 1)).toNat = 32 - s ∧ nl W32 (y * 2 ^ s) = m + 2 ∧ 2147483648 ≤ dg W32 (y * 2 ^ s) (m + 1) := by
  have hlt := lt_pow_nl W32 y (by decide)
  have hge := pow_le_of_nl W32 y (by omega)
  rw [hm] at hlt hge
  rw [show m + 2 - 1 = m + 1 by omega] at hge
  have hP : 0 < W32 ^ (m + 1) := Nat.pow_pos (by decide)
  have e2 : W32 ^ (m + 2) = W32 ^ (m + 1) * 4294967296 := Nat.pow_succ _ _
  have etop : (dg W32 y (m + 1)).toNat = y / W32 ^ (m + 1) := by
    unfold dg
    rw [Int.toNat_natCast, Nat.mod_eq_of_lt]
    exact Nat.div_lt_of_lt_mul (by rw [e2] at hlt; exact hlt)
  rw [etop] at hs ⊢
  have hdm := Nat.div_add_mod y (W32 ^ (m + 1))
  have hml := Nat.mod_lt y hP
  have ht1 : 1 ≤ y / W32 ^ (m + 1) := (Nat.le_div_iff_mul_le hP).2 (by omega)
  have ht2 : y / W32 ^ (m + 1) < 4294967296 := Nat.div_lt_of_lt_mul (by rw [e2] at hlt; exact hlt)
  generalize y / W32 ^ (m + 1) = t at *
  generalize y % W32 ^ (m + 1) = r at *
  obtain ⟨b1, b2, b3⟩ := bitLen_pow t (by omega) (by omega)
  have b4 : Lib.bitLen t ≤ 32 := Lib.bitLen_le t 32 (by omega) (by omega)
  generalize Lib.bitLen t = L at *
  generalize hPP : W32 ^ (m + 1) = P at *
  have p1 : 2 ^ (L - 1) * 2 ^ s = 2147483648 := by rw [← Nat.pow_add, show L - 1 + s = 31 by omega]
  have p2 : 2 ^ L * 2 ^ s = 4294967296 := by rw [← Nat.pow_add, show L + s = 32 by omega]
  have hup : y * 2 ^ s < P * 4294967296 := by
    have h1 : y < 2 ^ L * P := by
      have h3 : (t + 1) * P ≤ 2 ^ L * P := Nat.mul_le_mul_right P b2
      rw [Nat.add_mul, Nat.one_mul, Nat.mul_comm t] at h3
      omega
    have h2 : y * 2 ^ s < 2 ^ L * P * 2 ^ s := (Nat.mul_lt_mul_right (Nat.two_pow_pos s)).2 h1
    rw [Nat.mul_right_comm, p2, Nat.mul_comm 4294967296] at h2; exact h2
  have hlo : P * 2147483648 ≤ y * 2 ^ s := by
    have h1 : 2 ^ (L - 1) * P ≤ y := by
      have h3 : 2 ^ (L - 1) * P ≤ t * P := Nat.mul_le_mul_right P b1
      rw [Nat.mul_comm t] at h3; omega
    have h2 : 2 ^ (L - 1) * P * 2 ^ s ≤ y * 2 ^ s := Nat.mul_le_mul_right _ h1
    rw [Nat.mul_right_comm, p1, Nat.mul_comm 2147483648] at h2; exact h2
  refine ⟨by omega, by omega, ?_, ?_⟩
  · have h1 := nl_le W32 (y * 2 ^ s) (m + 2) (by decide) (by rw [e2]; exact hup)
    have h2 := lt_pow_nl W32 (y * 2 ^ s) (by decide)
    by_cases h3 : nl W32 (y * 2 ^ s) ≤ m + 1
    · have h4 : W32 ^ nl W32 (y * 2 ^ s) ≤ W32 ^ (m + 1) := Nat.pow_le_pow_right (by decide) h3
      rw [hPP] at h4
      omega
    · omega
  · unfold dg
    have h1 : y * 2 ^ s / W32 ^ (m + 1) < 4294967296 := Nat.div_lt_of_lt_mul (by rw [hPP]; exact hup)
    have h2 : 2147483648 ≤ y * 2 ^ s / W32 ^ (m + 1) := (Nat.le_div_iff_mul_le (by rw [hPP]; exact hP)).2 (by rw [hPP, Nat.mul_comm]; exact hlo)
    rw [Nat.mod_eq_of_lt h1]; omega

/-- The limbs of a row with others laid from i on. -/
def lay (h h2 : Nat → Int) (i n : Nat) : Nat → Int := fun j => if i ≤ j ∧ j < i + n then h2 (j - i) else h j
theorem lay_low (h h2 : Nat → Int) (i n j : Nat) (hj : j < i) : lay h h2 i n j = h j := by unfold lay; rw [if_neg (by omega)]
theorem lay_in (h h2 : Nat → Int) (i n j : Nat) (hj : j < n) : lay h h2 i n (i + j) = h2 j := by unfold lay; rw [if_pos (by omega), Nat.add_sub_cancel_left]
theorem val_lay (B : Nat) (h h2 : Nat → Int) (i n : Nat) : val B (lay h h2 i n) (i + n) = val B h i + val B h2 n * (B : Int) ^ i := by
  rw [val_add, val_congr i (fun j hj => lay_low h h2 i n j hj), val_congr n (fun j hj => lay_in h h2 i n j hj)]

theorem val_head (B : Nat) (f : Nat → Int) (n : Nat) : val B f (n + 1) = f 0 + val B (fun j => f (j + 1)) n * B := by
  rw [Nat.add_comm, val_add]; simp [val, Nat.add_comm, Int.pow_succ]

/-- One limb of the quotient: what the rows say ahead of a step they say behind it. -/
theorem long_step (B : Nat) (X D : Int) (h h2 g : Nat → Int) (i n N : Nat) (hi : i < N) (hg : g i = 0)
    (hX : X = val B h (i + 1 + n) + D * val B g N) (hr : val B h2 n = val B (fun j => h (i + j)) (n + 1) % D) :
    X = val B (lay h h2 i n) (i + n) + D * val B (put g i (val B (fun j => h (i + j)) (n + 1) / D)) N := by
  have e1 : val B h (i + 1 + n) = val B h i + val B (fun j => h (i + j)) (n + 1) * (B : Int) ^ i := by
    rw [show i + 1 + n = i + (n + 1) by omega, val_add]
  rw [val_lay, val_put B g N i _ hi, hg, Int.sub_zero, hr, hX, e1]
  generalize val B (fun j => h (i + j)) (n + 1) = R
  have h1 := Int.emod_add_mul_ediv R D
  generalize R / D = z at *
  generalize R % D = r at *
  rw [← h1, Int.add_mul, Int.mul_add, Int.mul_assoc]; omega

theorem long_fit (B : Nat) (D : Int) (h : Nat → Int) (i n : Nat) (hb : h i < (B : Int)) (hB : 0 < B) (hl : val B (fun j => h (i + 1 + j)) n < D) : val B (fun j => h (i + j)) (n + 1) < D * B := by
  rw [val_head]
  have e : val B (fun j => h (i + (j + 1))) n = val B (fun j => h (i + 1 + j)) n := val_congr n (fun j _ => by rw [Nat.add_assoc, Nat.add_comm 1])
  rw [e]
  have h1 : (val B (fun j => h (i + 1 + j)) n + 1) * (B : Int) ≤ D * B := Int.mul_le_mul_of_nonneg_right (by omega) (by omega)
  rw [Int.add_mul, Int.one_mul] at h1
  simp only [Nat.add_zero]
  omega

/-- Ahead of the first step what is left of the highest limbs is below the divisor. -/
theorem long_start (x y s la m : Nat) (hx : x < W32 ^ la) (hy : nl W32 y = m + 2) (hle : m + 2 ≤ la) :
    x * 2 ^ s / W32 ^ (la - (m + 2) + 1) < y * 2 ^ s := by
  have h1 := pow_le_of_nl W32 y (by omega)
  rw [hy] at h1
  refine Nat.div_lt_of_lt_mul ?_
  rw [← Nat.mul_assoc]
  refine (Nat.mul_lt_mul_right (Nat.two_pow_pos s)).2 (Nat.lt_of_lt_of_le hx ?_)
  have h2 : W32 ^ (la - (m + 2) + 1) * W32 ^ (m + 2 - 1) ≤ W32 ^ (la - (m + 2) + 1) * y := Nat.mul_le_mul_left _ h1
  rw [← Nat.pow_add, show la - (m + 2) + 1 + (m + 2 - 1) = la by omega] at h2
  exact h2

theorem val_from (B m k n : Nat) : val B (fun j => dg B m (k + j)) n = ((m / B ^ k % B ^ n : Nat) : Int) := by
  rw [← val_dg]
  refine val_congr n (fun j _ => ?_)
  unfold dg
  rw [Nat.pow_add, Nat.div_div_eq_div_mul]

/-- 'copy' of a slice into a block of zeros. -/
theorem copy_at {w1 : World} {g : Nat} {ao : Option Addr} {n c N : Nat} {f : Nat → Int} (ty : TypeId) (hn : n ≤ N) (hsrc : SrcOk w1 ao n f)
    (hblk : w1.heap[g]? = some (.cells (valsOf .u64 (fun _ => 0) N).toArray 59 (0, 0))) (hinf : (Try.prog.info? 59).map (·.size) = some 1) :
    ∃ w2, (Builtin.copy_ #[29, 29] ty #[.slice (some ⟨g, 0, none⟩) N N, .slice ao n c]).run Try.prog w1 = .ok (goInt n) w2 ∧ Cells w2 .u64 g 0 N (upto f n) ∧ Soft w2 g 0 N ∧ Below g w1 w2 := by
  have hb : Below g w1 w1 := Below.refl _ _
  by_cases h0 : n = 0
  · subst h0
    refine ⟨w1, run_copy_none (P := Try.prog) w1 _ _ ty 59 _ _ _ _ _ _ Try.underlying29 hinf (Nat.zero_min _), ?_, ?_, hb⟩
    · intro i hi
      rw [Nat.zero_add, cell_of_row w1 _ i _ _ _ hblk, List.getElem?_toArray, valsOf_at _ _ _ _ hi]; simp [upto]
    · intro i _; rw [Nat.zero_add]; exact frozen_of_row w1 _ i _ _ hblk
  · obtain ⟨ad, rfl, hcs⟩ := hsrc w1 (Below.refl _ _) (by rw [valsOf_length]; omega)
    have hrun := run_copy_row (P := Try.prog) w1 29 29 ty 59 g 0 N N ad n c _ 59 (valsOf .u64 f n) Try.underlying29 hinf hblk (by rw [valsOf_length]; exact (Nat.min_eq_left hn).symm) hcs (by rw [valsOf_length]; simp [valsOf_length]; omega) (vals_one _ _ _)
    rw [valsOf_length] at hrun
    refine ⟨_, hrun, ?_⟩
    have hblk2 := setRow_heap w1 g _ ((valsOf .u64 (fun _ => 0) N).toArray.toList.take 0 ++ valsOf .u64 f n ++ (valsOf .u64 (fun _ => 0) N).toArray.toList.drop (0 + n)).toArray 59 _ hblk
    have hs := splice_cells (w := w1.setRow g ((valsOf .u64 (fun _ => 0) N).toArray.toList.take 0 ++ valsOf .u64 f n ++ (valsOf .u64 (fun _ => 0) N).toArray.toList.drop (0 + n)).toArray) (f := f) (n := n) (N := N) (k := .u64) (e := 59) (by rw [hblk2]; simp [splice, valsOf_length])
    exact ⟨hs.1, hs.2, below_setRow hb (Nat.le_refl _) _⟩

set_option maxRecDepth 20000 in
set_option maxHeartbeats 4000000 in
theorem divLong_any (u v : Value) (x y m : Nat) (w : World) (hu : Rep w u x) (hv : Rep w v y) (hle : m + 2 ≤ nl W32 x) (hy : nl W32 y = m + 2) (hlx : nl W32 x ≤ 999999) :
    Calls Try.prog 60 #[u, v] w fun e w' => ∃ q r, e = .returned (.tuple #[q, r]) ∧ RepM w.heap.size w' q (x / y) ∧ RepM w.heap.size w' r (x % y) ∧ Below w.heap.size w w' := by
  obtain ⟨i0, hi, hz0, hz1, hz2⟩ := info_parts info_u64
  have hinf : (Try.prog.info? 59).map (·.size) = some 1 := by rw [hi]; simp [hz1]
  have HI := show Hid ((Try.prog.info? 59).map (·.size) = some 1) from hinf
  clear hinf
  obtain ⟨s, hs⟩ : ∃ s, s = 32 - Lib.bitLen (dg W32 y (m + 1)).toNat := ⟨_, rfl⟩
  obtain ⟨hs31, hbl, hnlD, htop⟩ := norm_num y m s hy hs
  have hxlt := lt_pow_nl W32 x (by decide)
  have HST := long_start x y s (nl W32 x) m hxlt hy hle
  have HX1 : x * 2 ^ s < W32 ^ (nl W32 x + 1) := by
    rw [Nat.pow_succ]
    have : 2 ^ s < W32 := Nat.lt_of_lt_of_le (Nat.pow_lt_pow_right (by omega) (show s < 32 by omega)) (by decide)
    exact Nat.mul_lt_mul_of_lt_of_lt hxlt this
  have hnlX := nl_le W32 (x * 2 ^ s) _ (by decide) HX1
  have hypos : 0 < y := by
    rcases Nat.eq_zero_or_pos y with e | e
    · subst e; rw [nl_zero] at hy; omega
    · exact e
  have hu0 := hu
  have hv0 := hv
  obtain ⟨ao, c, rfl, hl⟩ := rep_val hu0
  obtain ⟨bo, d, rfl, hbd, kl, k4⟩ := hv0
  obtain ⟨b2, o2, rfl, kc⟩ := k4 (by omega)
  have kcell := kc (m + 1) (by omega)
  have kbnd := dg_bounds W32 y (m + 1) (by decide)
  rw [W32c] at kbnd
  have hb2 := kc.lt (by omega)
  rw [hy] at kl hbd
  clear hu0 k4 kc hs
  have hlead : (32 - (Lib.bitLen (dg W32 y (m + 1)).toNat : Int)) = (s : Int) := by rw [hbl]; omega
  have hlX1 : nl W32 x ≤ 1000000 := by omega
  have hlY1 : nl W32 y ≤ 1000000 := by omega
  have UX := u32_dg (x * 2 ^ s) (nl W32 (x * 2 ^ s))
  have VX := val_nl W32 (x * 2 ^ s) (by decide)
  generalize hla : nl W32 x = la at *
  generalize dg W32 y (m + 1) = t at *
  have hwt : IntKind.u32.wrap t = t := by rw [IntKind.wrap_u32]; omega
  have i1 : ((m : Int) + 2 - 1) = (m : Int) + 1 := by omega
  rw [hy] at hv ⊢
  go_enter Try.func60, Try.ntmps60
  go_wp2_with (go_at_call 68; refine (lead32_any t _ kbnd.1 (by omega)).mono ?_; rintro e w' ⟨rfl, hw'⟩; have hw2 := hw'.symm; subst hw2; rw [hlead])
  go_wp2_with fail
  refine (shiftUp_any _ y s _ hv hlY1 (by omega)).mono ?_
  rintro e w1 ⟨by_, rfl, hby, hb1⟩
  have s1 := hb1.size
  unfold RepM at hby
  rw [hnlD] at hby
  obtain ⟨bbo, cb, rfl, hcb, _, hby4⟩ := hby
  obtain ⟨gb, ob, rfl, hcD, _, hgB⟩ := hby4 (by omega)
  have hgb1 := hcD.lt (by omega)
  clear hby4
  go_wp2_with (at_make; refine wpList_make_full _ rfl _ _ 29 rfl _ 59 i0 (.int .u64 0) 1 Try.underlying29 hi hz0 hz1 _ _ _ _ (la + 1) rfl rfl (by omega) (by omega) (by rw [hz2]; omega) (by unfold maxLen; omega) (Nat.le_refl _) ?_; intro w2 hown hgrow)
  have hblk := made_block hown
  have hb2' := below_grown hgrow
  have s2 := hb2'.size
  have s2' : w1.heap.size < w2.heap.size := by
    have := World.block_lt_of_cell? _ _ ((mine_made (k := .u64) (w := w1) hown (fun _ => 0) (fun i hi => made_zero .u64 (la + 1) i hi)).1 0 (by omega))
    exact this
  clear hown hgrow
  go_wp2_with fail
  refine (shiftUp_any _ x s _ (Nums.below hu (hb1.trans (hb2'.mono s1))) (by rw [hla]; exact hlX1) (by omega)).mono ?_
  rintro e w3 ⟨ra, rfl, hra, hb3⟩
  have s3 := hb3.size
  obtain ⟨ra_o, ra_c, rfl, hrac, hral, hra4⟩ := hra
  have C2 : SrcOk w3 ra_o (nl W32 (x * 2 ^ s)) (dg W32 (x * 2 ^ s)) := srcOk ⟨_, _, rfl, hrac, hral, fun h => let ⟨b, o, e, hc, _⟩ := hra4 h; ⟨b, o, e, hc⟩⟩
  have hblk3 : w3.heap[w1.heap.size]? = _ := (hb3.block _ s2').trans hblk
  clear hra4 hblk
  go_wp2
  obtain ⟨w4, hrun, hc4, hs4, hb4⟩ := copy_at (c := ra_c) 3 hnlX C2 hblk3 HI.out
  rw [hrun]
  clear hrun hblk3
  have s4 := hb4.size
  have hU4 : U32 (la + 1) (upto (dg W32 (x * 2 ^ s)) (nl W32 (x * 2 ^ s))) := fun i _ => by
    unfold upto; split
    · exact UX i (by assumption)
    · exact ⟨Int.le_refl _, by decide⟩
  have hcD4 : Cells w4 .u64 gb ob (m + 2) (dg W32 (y * 2 ^ s)) := ((hcD.below hb2' hgb1).below hb3 (by omega)).below hb4 hgb1
  have bel4 : Below w.heap.size w w4 := hb1.trans ((hb2'.mono s1).trans ((hb3.mono (by omega)).trans (hb4.mono s1)))
  clear hb2' hb3 hb4 C2 hcD
  have dF : ∀ j, j < la + 1 → upto (dg W32 (x * 2 ^ s)) (nl W32 (x * 2 ^ s)) j = dg W32 (x * 2 ^ s) j := by
    intro j _
    unfold upto; split
    · rfl
    · rw [dg_high]
      exact Nat.lt_of_lt_of_le (lt_pow_nl W32 _ (by decide)) (Nat.pow_le_pow_right (by decide) (by omega))
  obtain ⟨N, hN⟩ : ∃ N, N + (m + 1) = la := ⟨la - (m + 1), by omega⟩
  rw [show la - (m + 2) + 1 = N by omega] at HST
  have hc4' : Cells w4 .u64 w1.heap.size 0 (la + 1) (dg W32 (x * 2 ^ s)) := hc4.congr dF
  have hin : (la : Int) - ((m : Int) + 2) + 1 = (N : Int) := by omega
  clear hc4 dF hU4 UX
  go_wp2_with (at_make; refine wpList_make_full _ rfl _ _ 29 rfl _ 59 i0 (.int .u64 0) 1 Try.underlying29 hi hz0 hz1 _ _ _ _ N rfl rfl (by omega) (by omega) (by rw [hz2]; omega) (by unfold maxLen; omega) (Nat.le_refl _) ?_; intro w5 hown hgrow)
  have hb5 := below_grown hgrow
  have s5 := hb5.size
  obtain ⟨hc5, hs5⟩ := mine_made (k := .u64) (w := w4) hown (fun _ => 0) (fun i hi => made_zero .u64 N i hi)
  clear hown hgrow
  have hR4 := hc4'.lt (by omega)
  have hc4r := hc4'.below hb5 hR4
  have hs4r := hs4.below hb5 hR4
  have hcD5 := hcD4.below hb5 (by omega)
  have bel5 : Below w.heap.size w w5 := bel4.trans (hb5.mono bel4.size)
  have hwR : w.heap.size ≤ w1.heap.size := s1
  have hwQ : w.heap.size ≤ w4.heap.size := bel4.size
  clear hcD4 hc4' hs4 bel4 hb5 s5 s1 s2 s2' s3 s4 hb1 kcell
  have UD := u32_dg (y * 2 ^ s) (m + 2)
  have VD : Hid (val W32 (dg W32 (y * 2 ^ s)) (m + 2) = ((y * 2 ^ s : Nat) : Int)) := by show _ = _; rw [← hnlD]; exact val_nl W32 _ (by decide)
  have DP : (0 : Int) < ((y * 2 ^ s : Nat) : Int) := by
    have : 0 < y * 2 ^ s := Nat.mul_pos hypos (Nat.two_pow_pos s)
    omega
  have hx0 : Hid (((x * 2 ^ s : Nat) : Int) = val W32 (dg W32 (x * 2 ^ s)) (N + (m + 2)) + ((y * 2 ^ s : Nat) : Int) * val W32 (fun _ => 0) N) := by
    show _ = _
    rw [val_zero N (fun _ _ => rfl), Int.mul_zero, Int.add_zero, val_dg, Nat.mod_eq_of_lt]
    rw [show N + (m + 2) = la + 1 by omega]; exact HX1
  have hx1 : Hid (val W32 (fun j => dg W32 (x * 2 ^ s) (N + j)) (m + 2) < ((y * 2 ^ s : Nat) : Int)) := by
    show _ < _
    rw [val_from]
    have := Nat.mod_le (x * 2 ^ s / W32 ^ N) (W32 ^ (m + 2))
    omega
  have UXX := u32_dg (x * 2 ^ s) (la + 1)
  have HXE : Hid (x * 2 ^ s / (y * 2 ^ s) = x / y) := Nat.mul_div_mul_right _ _ (Nat.two_pow_pos s)
  have HXM : Hid (x * 2 ^ s % (y * 2 ^ s) = x % y * 2 ^ s) := Nat.mul_mod_mul_right _ _ _
  clear HST HX1 VX hnlX
  generalize w1.heap.size = gR at *
  generalize w4.heap.size = gQ at *
  generalize hXX : x * 2 ^ s = X at *
  generalize hDD : y * 2 ^ s = D at *
  go_loopw [10] (fun vi wr => ∃ (k : Nat) (h g : Nat → Int), k ≤ N ∧ vi = .int .i64 ((k : Int) - 1) ∧ Cells wr .u64 gR 0 (la + 1) h ∧ Soft wr gR 0 (la + 1) ∧ U32 (la + 1) h ∧ Cells wr .u64 gQ 0 N g ∧ Soft wr gQ 0 N ∧ U32 N g ∧ (∀ j, j < k → g j = 0) ∧
      (X : Int) = val W32 h (k + (m + 2)) + (D : Int) * val W32 g N ∧ val W32 (fun j => h (k + j)) (m + 2) < (D : Int) ∧ Below w.heap.size w wr ∧ Cells wr .u64 gb ob (m + 2) (dg W32 D)) (fun vi _ => (intOf vi + 1).toNat)
  case atStart => exact ⟨N, dg W32 X, fun _ => 0, Nat.le_refl _, rfl, hc4r, hs4r, UXX, hc5, hs5, fun _ _ => ⟨Int.le_refl _, (by decide : (0 : Int) < (W32 : Int))⟩, fun _ _ => rfl, hx0.out, hx1.out, bel5, hcD5⟩
  case round =>
    clear hc4r hs4r UXX hc5 hs5 hx0 hx1 bel5 hcD5
    obtain ⟨k, h, g, hk, rfl, hch, hsh, huh, hcg, hsg, hug, hgz, hX, hlt, hbel, hcD⟩ := hrel
    have HX : Hid ((X : Int) = val W32 h (k + (m + 2)) + (D : Int) * val W32 g N) := hX
    have HL : Hid (val W32 (fun j => h (k + j)) (m + 2) < (D : Int)) := hlt
    have HGZ : Hid (∀ j, j < k → g j = 0) := hgz
    clear hX hlt hgz
    cases k with
    | zero =>
      have hXD : ((X : Int) = val W32 g N * (D : Int) + val W32 h (m + 2)) := by
        have := HX.out; rw [Nat.zero_add, Int.mul_comm] at this; omega
      have hL0 : val W32 h (m + 2) < (D : Int) := by
        have := HL.out; simpa using this
      have hb0 := (val_bounds W32 h (m + 2) (fun i hi => huh i (by omega))).1
      obtain ⟨q1, q2⟩ := quo_rem X D _ _ (by omega) hb0 hL0 hXD
      rw [HXE.out] at q1
      rw [HXM.out] at q2
      have Q1 : Hid (val W32 g N = ((x / y : Nat) : Int)) := q1
      have Q2 : Hid (val W32 h (m + 2) = ((x % y * 2 ^ s : Nat) : Int)) := q2
      have hMQ : Mine .u64 w.heap.size wr (.slice (some ⟨gQ, 0, none⟩) N N) N g := ⟨_, _, rfl, Nat.le_refl _, by unfold LIM; omega, fun _ => ⟨_, _, rfl, hcg, hsg, hwQ⟩⟩
      have hMR : Mine .u64 w.heap.size wr (.slice (some ⟨gR, 0, none⟩) (m + 2) (la + 1)) (m + 2) h := ⟨_, _, rfl, by omega, by unfold LIM; omega, fun _ => ⟨_, _, rfl, hch.mono (by omega), hsh.mono (by omega), hwR⟩⟩
      have hUR : ∀ i, i < m + 2 → 0 ≤ h i ∧ h i < (W32 : Int) := fun i hi => huh i (by omega)
      have HDX : Hid (x % y * 2 ^ s / 2 ^ s = x % y) := Nat.mul_div_cancel _ (Nat.two_pow_pos s)
      have hnr : nl W32 (x % y * 2 ^ s) ≤ 1000000 := by
        have h1 : val W32 h (m + 2) < (W32 : Int) ^ (m + 2) := (val_bounds W32 h (m + 2) hUR).2
        have h2 := nl_le W32 (x % y * 2 ^ s) (m + 2) (by decide) (by
          have e : ((W32 ^ (m + 2) : Nat) : Int) = (W32 : Int) ^ (m + 2) := by simp
          rw [Q2.out, ← e] at h1; omega)
        omega
      have hML : m + 2 ≤ la + 1 := by omega
      have hms : (s : Nat) ≤ 9223372036854775807 := by omega
      clear hXD hL0 hb0 q1 q2 HX HL HGZ hch hsh huh hcD hlead hwt hin i1 htop hbl kbnd hle hN UD VD hnlD hy hbd kl
      generalize m + 2 = M at *
      generalize la + 1 = L at *
      generalize (m : Int) + 2 = mi at *
      generalize (la : Int) + 1 = li at *
      have iN : (0 : Int) ≤ (M : Int) := by omega
      have iL : (M : Int) ≤ (L : Int) := by omega
      go_wp2
      go_region_held3 (fun _ => True) (trivial) (first
        | (go_at_call_of 56 gQ; refine (cut_mine w.heap.size (.slice (some ⟨gQ, 0, none⟩) N N) N g _ (x / y) (by exact hMQ) (by exact hug) Q1.out).mono ?_; rintro e wq ⟨q, rfl, hq, rfl⟩)
        | (go_at_call_of 56 gR; refine (cut_mine w.heap.size (.slice (some ⟨gR, 0, none⟩) M L) M h _ _ (by exact hMR) hUR Q2.out).mono ?_; rintro e wq ⟨r, rfl, hr, rfl⟩)
        | (go_at_call 71; refine (shiftDown_any _ _ s _ (by exact hr.rep) hnr hms).mono ?_; rintro e w9 ⟨r2, rfl, hr2, hb9⟩))
      go_wp2
      go_ret2
      rw [HDX.out] at hr2
      have hsw := hbel.size
      have hb9' : Below wr.heap.size wr w9 := ⟨hb9.os, hb9.tape, hb9.output, hb9.size, hb9.block⟩
      have hr2' : RepM wr.heap.size w9 r2 (x % y) := hr2
      have hq' : RepM w.heap.size wr q (x / y) := hq
      exact ⟨_, _, rfl, Mine.below hq' hb9', Mine.le hr2' hsw, hbel.trans (hb9'.mono hsw)⟩
    | succ i =>
      have e1 : (((i + 1 : Nat) : Int) - 1) = (i : Int) := by omega
      rw [e1]
      have e2 : (i : Int) + ((m : Int) + 2) + 1 = (i : Int) + (m : Int) + 3 := by omega
      have hRg : gR < wr.heap.size := hch.lt (by omega)
      have hQg : gQ < wr.heap.size := hcg.lt (by omega)
      have hsub := hch.from i (m + 3) (by omega)
      have hsos := hsh.from i (m + 3) (by omega)
      rw [Nat.zero_add] at hsub hsos
      have hfit : val W32 (fun j => h (i + j)) (m + 3) < val W32 (dg W32 D) (m + 2) * 4294967296 := by
        rw [VD.out]
        exact long_fit W32 D h i (m + 2) (huh i (by omega)).2 (by decide) HL.out
      have hUs : U32 (m + 3) (fun j => h (i + j)) := fun j hj => huh (i + j) (by omega)
      go_wp2_with fail
      rw [show i + m + 3 - i = m + 3 by omega]
      refine (divStep_any gR i (la + 1 - i) gb ob cb m (fun j => h (i + j)) (dg W32 D) wr (by omega) (by omega) hsub hsos hcD hcb (by omega) hUs UD htop hfit).mono ?_
      rintro e w6 ⟨rfl, h2, hc6, hu6, hv6, hup6⟩
      rw [VD.out] at hv6 ⊢
      have hst := long_step W32 X D h h2 g i (m + 2) N (by omega) (HGZ.out i (by omega)) HX.out hv6
      have hR0 : 0 ≤ val W32 (fun j => h (i + j)) (m + 3) := (val_bounds W32 _ (m + 3) hUs).1
      have hq0 : 0 ≤ val W32 (fun j => h (i + j)) (m + 3) / (D : Int) := Int.ediv_nonneg hR0 (Int.le_of_lt DP)
      have hq1 : val W32 (fun j => h (i + j)) (m + 3) / (D : Int) < (W32 : Int) := by
        rw [VD.out] at hfit
        exact Int.ediv_lt_of_lt_mul DP (by rw [Int.mul_comm]; exact hfit)
      have hrl : val W32 h2 (m + 2) < (D : Int) := by rw [hv6]; exact Int.emod_lt_of_pos _ DP
      have HST : Hid ((X : Int) = val W32 (lay h h2 i (m + 2)) (i + (m + 2)) + (D : Int) * val W32 (put g i (val W32 (fun j => h (i + j)) (m + 3) / (D : Int))) N) := hst
      have HRL : Hid (val W32 h2 (m + 2) < (D : Int)) := hrl
      have hchL : Cells w6 .u64 gR 0 (la + 1) (lay h h2 i (m + 2)) := by
        intro j hj
        unfold lay
        by_cases hin : i ≤ j ∧ j < i + (m + 2)
        · rw [if_pos hin]
          have := hc6 (j - i) (by omega)
          rw [show i + (j - i) = j by omega] at this
          rw [Nat.zero_add]; exact this
        · rw [if_neg hin, hup6.cell _ (by omega)]; exact hch j hj
      have hshL := hsh.upd hRg hup6
      have hcg6 := hcg.upd hup6 (.inl (by omega))
      have hsg6 := hsg.upd hQg hup6
      have hcD6 := hcD.upd hup6 (.inl (by omega))
      have huL : U32 (la + 1) (lay h h2 i (m + 2)) := by
        intro j hj
        unfold lay
        split
        · exact hu6 _ (by omega)
        · exact huh j hj
      have hbel6 : Below w.heap.size w w6 := hbel.trans (hup6.below hwR hbel.size)
      have hfr := hsg6 i (by omega)
      have hce := hcg6 i (by omega)
      rw [Nat.zero_add] at hfr hce
      generalize val W32 (fun j => h (i + j)) (m + 3) / (D : Int) = qd at *
      clear hst hv6 hrl hfit hup6 hsub hsos HX HL hR0
      go_wp2
      go_roundw
      case rel =>
        have hset := hcg6.set i (by omega) qd
        rw [Nat.zero_add] at hset
        refine ⟨i, lay h h2 i (m + 2), put g i qd, by omega, by go_num, ?_, hshL.set _ _, huL, hset, hsg6.set _ _, put_bounds hug hq0 hq1, ?_, HST.out, ?_, hbel6.setCell (by simp; omega) _, ?_⟩
        · intro j hj; rw [World.cell?_setCell_other _ _ _ _ (fun e => by injection e; omega)]; exact hchL j hj
        · intro j hj; rw [put_other _ _ _ _ (by omega)]; exact HGZ.out j (by omega)
        · rw [val_congr (m + 2) (fun j hj => lay_in h h2 i (m + 2) j hj)]; exact HRL.out
        · intro j hj; rw [World.cell?_setCell_other _ _ _ _ (fun e => by injection e; omega)]; exact hcD6 j hj
      case measure => simp [intOf]

end Go.Proofs.Ytlegcekklknjhaa

/-
  What nat.multiplyPieces, multiplyHalves and product answer: the product of any two numbers (Karatsuba's way).
-/
namespace Go.Proofs.Ytlegcekklknjhaa
open Go.RowKit

set_option maxRecDepth 20000 in
set_option maxHeartbeats 400000 in
/-- nat.cut of limbs below 2^32, whosever. -/
theorem cut_nums (v : Value) (n : Nat) (f : Nat → Int) (w : World) (m : Nat) (h : Nums .u64 w v n f) (hf : ∀ i, i < n → 0 ≤ f i ∧ f i < (W32 : Int)) (hm : val W32 f n = (m : Int)) :
    Calls Try.prog 56 #[v] w fun e w' => ∃ v', e = .returned v' ∧ Rep w' v' m ∧ w' = w := by
  have hs : sz (lo f) n = nl W32 m := by
    rw [num_sz, num_of f n m hf hm]
  have hfu : U64 n f := fun i hi => by have := hf i hi; unfold W32 at this; omega
  have hle := sz_le (lo f) n
  rw [hs] at hle
  have hN := h
  obtain ⟨ao, c, rfl, hnc, hl, h4⟩ := h
  unfold LIM at hl
  by_cases hz : nl W32 m = 0
  · go_enter Try.func56, Try.ntmps56
    go_wp2_with (go_at_call 46; refine (size_any _ _ _ _ hN hfu).mono ?_; rintro e w' ⟨rfl, rfl⟩; rw [hs, hz])
    go_ret
    refine ⟨_, rfl, ?_, rfl⟩
    unfold Rep; rw [hz]; exact Nums.nil _ _ _
  · obtain ⟨b, off, rfl, hc⟩ := h4 (by omega)
    have hne : ((nl W32 m : Int) == 0) = false := by simp; omega
    go_enter Try.func56, Try.ntmps56
    go_wp2_with (go_at_call 46; refine (size_any _ _ _ _ hN hfu).mono ?_; rintro e w' ⟨rfl, rfl⟩; rw [hs])
    go_ret
    refine ⟨_, rfl, ?_, rfl⟩
    exact ⟨_, _, rfl, by omega, by unfold LIM; omega, fun _ => ⟨_, _, rfl, (hc.mono hle).congr (fun i hi => val_digit W32 f n m hf hm i (by omega))⟩⟩

/-- What nat.product is to answer of x and y. -/
def ProdAt (x y : Nat) : Prop := ∀ (u v : Value) (w : World), Rep w u x → Rep w v y →
    Calls Try.prog 43 #[u, v] w fun e w' => ∃ r, e = .returned r ∧ RepM w.heap.size w' r (x * y) ∧ Below w.heap.size w w'

/-- A number in new memory lies in none of the old blocks. -/
theorem repM_ne {B : Nat} {w : World} {v : Value} {m g : Nat} (h : RepM B w v m) (hg : g < B) : 0 < nl W32 m → ∀ b o c, v = .slice (some ⟨b, o, none⟩) (nl W32 m) c → b ≠ g := by
  intro hp b o c he
  obtain ⟨ao, c', rfl, _, _, h4⟩ := h
  obtain ⟨b', o', rfl, _, _, hB⟩ := h4 hp
  cases he
  omega

/-- The limbs of a row with others laid from i on, to its end. -/
def layEnd (h h2 : Nat → Int) (i : Nat) : Nat → Int := fun j => if i ≤ j then h2 (j - i) else h j
theorem val_layEnd (B : Nat) (h h2 : Nat → Int) (i n : Nat) : val B (layEnd h h2 i) (i + n) = val B h i + val B h2 n * (B : Int) ^ i := by
  rw [val_add, val_congr i (g := h) (fun j hj => by unfold layEnd; rw [if_neg (by omega)]), val_congr n (g := h2) (fun j _ => by unfold layEnd; rw [if_pos (by omega), Nat.add_sub_cancel_left])]

/-- Adding a number to a row's limbs from i on: what it makes of the row, and that it fits. -/
theorem add_from (h h2 : Nat → Int) (N i : Nat) (S z T : Nat) (hi : i ≤ N) (hu : ∀ j, j < N → 0 ≤ h j ∧ h j < (W32 : Int)) (hS : val W32 h N = (S : Int)) (hT : S + z * W32 ^ i = T) (hTN : T < W32 ^ N) :
    val W32 (fun j => h (i + j)) (N - i) + (z : Int) < (W32 : Int) ^ (N - i) ∧ (val W32 h2 (N - i) = val W32 (fun j => h (i + j)) (N - i) + (z : Int) → val W32 (layEnd h h2 i) N = (T : Int)) := by
  have e0 : N = i + (N - i) := by omega
  have e1 := val_add W32 h i (N - i)
  rw [← e0, hS] at e1
  have hp := powB_pos W32 (by decide) i
  have hlow := (val_bounds W32 h i (fun j hj => hu j (by omega))).1
  have eT : (T : Int) = (S : Int) + (z : Int) * (W32 : Int) ^ i := by rw [← hT]; simp
  have eP : (W32 : Int) ^ N = (W32 : Int) ^ i * (W32 : Int) ^ (N - i) := by rw [← Int.pow_add, ← e0]
  have hTN' : (T : Int) < (W32 : Int) ^ N := by
    have e : ((W32 ^ N : Nat) : Int) = (W32 : Int) ^ N := by simp
    omega
  constructor
  · by_cases g : val W32 (fun j => h (i + j)) (N - i) + (z : Int) < (W32 : Int) ^ (N - i)
    · exact g
    · exfalso
      have h1 : (W32 : Int) ^ (N - i) * (W32 : Int) ^ i ≤ (val W32 (fun j => h (i + j)) (N - i) + (z : Int)) * (W32 : Int) ^ i := Int.mul_le_mul_of_nonneg_right (by omega) (Int.le_of_lt hp)
      rw [Int.add_mul, Int.mul_comm ((W32 : Int) ^ (N - i))] at h1
      omega
  · intro h3
    have e2 := val_layEnd W32 h h2 i (N - i)
    rw [← e0, h3, Int.add_mul] at e2
    omega

theorem cells_layEnd {w w' : World} {g N i : Nat} {h h2 : Nat → Int} (hc : Cells w .u64 g 0 N h) (hc2 : Cells w' .u64 g i (N - i) h2) (hu : Upd w w' g i (N - i)) : Cells w' .u64 g 0 N (layEnd h h2 i) := by
  intro j hj
  unfold layEnd
  by_cases e : i ≤ j
  · rw [if_pos e]
    have := hc2 (j - i) (by omega)
    rw [show i + (j - i) = j by omega] at this
    rw [Nat.zero_add]; exact this
  · rw [if_neg e, hu.cell _ (by omega)]; exact hc j hj
theorem u32_layEnd {N i : Nat} {h h2 : Nat → Int} (hu : U32 N h) (hu2 : U32 (N - i) h2) : U32 N (layEnd h h2 i) := by
  intro j hj
  unfold layEnd
  split
  · exact hu2 _ (by omega)
  · exact hu j hj

/-- A piece of a number's limbs. -/
theorem piece_num (x P E : Nat) (h : P ≤ E) : x % W32 ^ P + (x / W32 ^ P % W32 ^ (E - P)) * W32 ^ P = x % W32 ^ E := by
  have e : W32 ^ E = W32 ^ P * W32 ^ (E - P) := by rw [← Nat.pow_add]; congr 1; omega
  rw [e, Nat.mod_mul, Nat.mul_comm]

set_option maxRecDepth 20000 in
set_option maxHeartbeats 4000000 in
theorem pieces_any (g N ba oa la ca bb ob lb cb x y : Nat) (w : World) (hN : N = la + lb) (hlb : 0 < lb) (hl : la ≤ 400000) (hlb2 : lb ≤ la) (hca : la ≤ ca)
    (hout : Cells w .u64 g 0 N (fun _ => 0)) (hs : Soft w g 0 N) (ha : Cells w .u64 ba oa la (dg W32 x)) (hb : Rep w (.slice (some ⟨bb, ob, none⟩) lb cb) y)
    (hga : ba ≠ g) (hx : x < W32 ^ la) (hy : y < W32 ^ lb) (hgb : bb ≠ g) (IH : ∀ p, nl W32 p ≤ lb → ProdAt p y) :
    Calls Try.prog 54 #[.slice (some ⟨g, 0, none⟩) N N, .slice (some ⟨ba, oa, none⟩) la ca, .slice (some ⟨bb, ob, none⟩) lb cb] w fun e w' =>
      e = .returned (.tuple #[]) ∧ ∃ h, Cells w' .u64 g 0 N h ∧ U32 N h ∧ val W32 h N = ((x * y : Nat) : Int) ∧ Upd w w' g 0 N := by
  have HX : Hid (x < W32 ^ la) := hx
  have HY : Hid (y < W32 ^ lb) := hy
  have hglt := hout.lt (show 0 < N by omega)
  clear hx hy
  go_enter Try.func54, Try.ntmps54
  go_wp2
  go_loopw [6] (fun vi wr => ∃ (P : Nat) (h : Nat → Int), P < la + lb ∧ vi = .int .i64 (P : Int) ∧ Cells wr .u64 g 0 N h ∧ U32 N h ∧ val W32 h N = ((x % W32 ^ P * y : Nat) : Int) ∧ Upd w wr g 0 N) (fun vi _ => la + lb - (intOf vi).toNat)
  case atStart => exact ⟨0, fun _ => 0, by omega, rfl, hout, fun _ _ => ⟨Int.le_refl _, (by decide : (0 : Int) < (W32 : Int))⟩, by rw [val_zero N (fun _ _ => rfl)]; simp [Nat.mod_one], Upd.refl _ _ _ _⟩
  case round =>
    obtain ⟨P, h, hP, rfl, hch, huh, hv, hupd⟩ := hrel
    by_cases hlt : P < la
    · obtain ⟨E, hE⟩ : ∃ E, E = min (P + lb) la := ⟨_, rfl⟩
      have hE1 : P < E := by omega
      have hE2 : E ≤ la := by omega
      have hE3 : E ≤ P + lb := by omega
      have hE4 : E = P + lb ∨ E = la := by omega
      have hEi : min ((P : Int) + (lb : Int)) (la : Int) = (E : Int) := by omega
      clear hE
      go_wp2
      clear hEi
      -- the piece
      have hpA : Cells wr .u64 ba (oa + P) (E - P) (fun j => dg W32 x (P + j)) := (ha.upd hupd (.inl hga)).from P (E - P) (by omega)
      have hpV := val_from W32 x P (E - P)
      have hpU : ∀ i, i < E - P → 0 ≤ dg W32 x (P + i) ∧ dg W32 x (P + i) < (W32 : Int) := fun i _ => dg_bounds W32 x (P + i) (by decide)
      have hpc := piece_num x P E (by omega)
      have hznl : nl W32 (x / W32 ^ P % W32 ^ (E - P)) ≤ lb := Nat.le_trans (nl_le W32 _ (E - P) (by decide) (Nat.mod_lt _ (Nat.pow_pos (by decide)))) (by omega)
      generalize x / W32 ^ P % W32 ^ (E - P) = z at *
      have hT : x % W32 ^ P * y + z * y * W32 ^ P = x % W32 ^ E * y := by rw [← hpc, Nat.add_mul, Nat.mul_right_comm]
      have hTN : x % W32 ^ E * y < W32 ^ N := by
        rw [hN, Nat.pow_add]
        exact Nat.mul_lt_mul_of_lt_of_lt (Nat.lt_of_le_of_lt (Nat.mod_le _ _) HX.out) HY.out
      have hEx : x % W32 ^ E = x % W32 ^ (P + lb) := by
        rcases hE4 with e | e
        · rw [e]
        · rw [e, Nat.mod_eq_of_lt HX.out, Nat.mod_eq_of_lt (Nat.lt_of_lt_of_le HX.out (Nat.pow_le_pow_right (by decide) (by omega)))]
      have HEX : Hid (x % W32 ^ E * y = x % W32 ^ (P + lb) * y) := by show _ = _; rw [hEx]
      have hAF := fun h2 => add_from h h2 N P (x % W32 ^ P * y) (z * y) (x % W32 ^ E * y) (by omega) huh hv hT hTN
      have HAF : Hid (∀ h2 : Nat → Int, val W32 (fun j => h (P + j)) (N - P) + ((z * y : Nat) : Int) < (W32 : Int) ^ (N - P) ∧ (val W32 h2 (N - P) = val W32 (fun j => h (P + j)) (N - P) + ((z * y : Nat) : Int) → val W32 (layEnd h h2 P) N = ((x % W32 ^ E * y : Nat) : Int))) := hAF
      have hznl2 : nl W32 (z * y) ≤ N - P := by
        refine nl_le W32 _ _ (by decide) ?_
        have h1 := (HAF.out (fun _ => 0)).1
        have h2 := (val_bounds W32 (fun j => h (P + j)) (N - P) (fun j hj => huh (P + j) (by omega))).1
        have e : ((W32 ^ (N - P) : Nat) : Int) = (W32 : Int) ^ (N - P) := by simp
        omega
      have hbR : Rep wr (.slice (some ⟨bb, ob, none⟩) lb cb) y := by
        refine Nums.upd hb hupd (fun b' o' c' he _ => ?_)
        injection he with he1; injection he1 with he2; injection he2 with he3; omega
      have hrow : Cells wr .u64 g P (N - P) (fun j => h (P + j)) := by
        have := hch.from P (N - P) (by omega); rw [Nat.zero_add] at this; exact this
      have hsrow : Soft wr g P (N - P) := by
        have := (hs.upd hglt hupd).from P (N - P) (by omega); rw [Nat.zero_add] at this; exact this
      have hurow : U32 (N - P) (fun j => h (P + j)) := fun j hj => huh (P + j) (by omega)
      have hgw : g < wr.heap.size := hch.lt (by omega)
      have hpN : Nums .u64 wr (.slice (some ⟨ba, oa + P, none⟩) (E - P) (ca - P)) (E - P) (fun j => dg W32 x (P + j)) := ⟨_, _, rfl, by omega, by unfold LIM; omega, fun _ => ⟨_, _, rfl, hpA⟩⟩
      have hlim : N - P ≤ LIM := by unfold LIM; omega
      have hVz : Hid (val W32 (dg W32 (z * y)) (nl W32 (z * y)) = ((z * y : Nat) : Int)) := val_nl W32 _ (by decide)
      have hpV' : Hid (val W32 (fun j => dg W32 x (P + j)) (E - P) = (z : Int)) := hpV
      have hIH := IH z hznl
      have HIH : Hid (ProdAt z y) := hIH
      have i1 : (0 : Int) ≤ (P : Int) := by omega
      have i2 : (P : Int) ≤ (E : Int) := by omega
      have i3 : (E : Int) ≤ (la : Int) := by omega
      have i4 : (P : Int) ≤ (N : Int) := by omega
      have i5 : (E : Int) ≤ (ca : Int) := by omega
      have n1 : ¬ N = P := by omega
      have n2 : ¬ ca = P := by omega
      have n3 : P ≤ N := by omega
      have n4 : P ≤ E := by omega
      have n5 : E ≤ ca := by omega
      have n6 : E ≤ la := by omega
      have HNN : Hid (P + lb < la + lb) := by show _ < _; omega
      clear hpV hAF hT hTN hpc hIH hv hEx hznl hN
      go_region_held3 (fun _ => True) (trivial) (first
        | (go_at_call 56; refine (cut_nums (.slice (some ⟨ba, oa + P, none⟩) (E - P) (ca - P)) (E - P) _ _ z (by exact hpN) hpU hpV'.out).mono ?_; rintro e wc ⟨vc, rfl, hvc, rfl⟩)
        | (go_at_call 43; refine (Hid.out HIH _ _ _ (by exact hvc) (by exact hbR)).mono ?_; rintro e wp ⟨vp, rfl, hvp0, hbp0⟩; have hvp : RepM wr.heap.size wp vp (z * y) := hvp0; have hbp : Below wr.heap.size wr wp := ⟨hbp0.os, hbp0.tape, hbp0.output, hbp0.size, hbp0.block⟩)
        | (go_at_call 61; refine (addInto_any g P (N - P) (N - P) vp (nl W32 (z * y)) (fun j => h (P + j)) (dg W32 (z * y)) _ hlim hznl2 (hrow.below hbp hgw) (hsrow.below hbp hgw) hurow hvp.rep (u32_dg _ _) (repM_ne hvp hgw) (by rw [hVz.out]; exact (HAF.out (fun _ => 0)).1)).mono ?_; rintro e wa ⟨rfl, h2, hc2, hu2, hv2, hup2⟩))
      go_wp2
      go_roundw
      case rel =>
        rw [hVz.out] at hv2
        have hup : Upd wr wa g P (N - P) := (Upd.of_below hbp hgw).trans hup2
        refine ⟨P + lb, layEnd h h2 P, HNN.out, by go_num, cells_layEnd hch hc2 hup, u32_layEnd huh hu2, ?_, hupd.trans (hup.mono (by omega) (by omega))⟩
        rw [(HAF.out h2).2 hv2, HEX.out]
      case measure => simp [intOf]; omega
    · go_wp2
      go_end0
      have e : x % W32 ^ P = x := Nat.mod_eq_of_lt (Nat.lt_of_lt_of_le HX.out (Nat.pow_le_pow_right (by decide) (by omega)))
      rw [e] at hv
      exact ⟨rfl, h, hch, huh, hv, hupd⟩

theorem repM_lt {B : Nat} {w : World} {v : Value} {m : Nat} (h : RepM B w v m) : 0 < nl W32 m → ∀ b o c, v = .slice (some ⟨b, o, none⟩) (nl W32 m) c → b < w.heap.size := by
  intro hp b o c he
  obtain ⟨ao, c', rfl, _, _, h4⟩ := h
  obtain ⟨b', o', rfl, hc, _, _⟩ := h4 hp
  cases he
  exact hc.lt hp

theorem nl_hi (x l H : Nat) (hl : nl W32 x = l) (hH : H ≤ l) : nl W32 (x / W32 ^ H) = l - H := by
  have hlt := lt_pow_nl W32 x (by decide)
  rw [hl] at hlt
  have hp : 0 < W32 ^ H := Nat.pow_pos (by decide)
  have h1 : x / W32 ^ H < W32 ^ (l - H) := by
    refine Nat.div_lt_of_lt_mul ?_
    rw [← Nat.pow_add, show H + (l - H) = l by omega]; exact hlt
  have h2 := nl_le W32 _ _ (by decide) h1
  by_cases e : l = H
  · omega
  · have h3 := pow_le_of_nl W32 x (by omega)
    rw [hl] at h3
    have h4 : W32 ^ (l - 1 - H) ≤ x / W32 ^ H := by
      refine (Nat.le_div_iff_mul_le hp).2 ?_
      rw [← Nat.pow_add, show l - 1 - H + H = l - 1 by omega]; exact h3
    have h5 := lt_pow_nl W32 (x / W32 ^ H) (by decide)
    by_cases g : nl W32 (x / W32 ^ H) ≤ l - 1 - H
    · have h6 : W32 ^ nl W32 (x / W32 ^ H) ≤ W32 ^ (l - 1 - H) := Nat.pow_le_pow_right (by decide) g
      omega
    · omega

theorem rep_hi {w : World} {b o l c x H : Nat} (hc : Cells w .u64 b o l (dg W32 x)) (hl : nl W32 x = l) (hH : H ≤ l) (hcc : l ≤ c) (hlim : l ≤ LIM) : Rep w (.slice (some ⟨b, o + H, none⟩) (l - H) (c - H)) (x / W32 ^ H) := by
  unfold Rep
  rw [nl_hi x l H hl hH]
  refine ⟨_, _, rfl, by omega, by omega, fun _ => ⟨_, _, rfl, (hc.from H (l - H) (by omega)).congr (fun i _ => ?_)⟩⟩
  unfold dg
  rw [Nat.pow_add, Nat.div_div_eq_div_mul]

theorem kara_sum (x0 x1 y0 y1 P : Nat) : (x0 + x1) * (y0 + y1) = x0 * y0 + x1 * y1 + (x0 * y1 + x1 * y0) ∧ x0 * y0 + (x0 * y1 + x1 * y0) * P + x1 * y1 * (P * P) = (x0 + x1 * P) * (y0 + y1 * P) := by
  constructor
  · rw [Nat.add_mul, Nat.mul_add, Nat.mul_add]; omega
  · rw [Nat.add_mul x0, Nat.mul_add x0, Nat.mul_add (x1 * P), Nat.add_mul (x0 * y1), Nat.mul_mul_mul_comm x1 P y1 P, ← Nat.mul_assoc x0 y1 P, Nat.mul_right_comm x1 P y0]; omega

end Go.Proofs.Ytlegcekklknjhaa

/-
  What nat.multiplyHalves answers (Karatsuba's way).
-/
namespace Go.Proofs.Ytlegcekklknjhaa
open Go.RowKit

set_option maxRecDepth 20000 in
set_option maxHeartbeats 2000000 in
theorem halves_wide (g N ba oa la ca bb ob lb cb x y H : Nat) (w : World) (hN : N = la + lb) (hH : H = (la + 1) / 2) (h40 : 40 ≤ lb) (hl : la ≤ 400000) (hlb2 : lb ≤ la) (h2 : la < 2 * lb) (hca : la ≤ ca) (hcb : lb ≤ cb) (hcH : ¬ cb = H)
    (hout : Cells w .u64 g 0 N (fun _ => 0)) (hs : Soft w g 0 N) (ha : Cells w .u64 ba oa la (dg W32 x)) (hb : Cells w .u64 bb ob lb (dg W32 y))
    (hnx : nl W32 x = la) (hny : nl W32 y = lb) (IH : ∀ p q, nl W32 p + nl W32 q < la + lb → ProdAt p q) :
    Calls Try.prog 55 #[.slice (some ⟨g, 0, none⟩) N N, .slice (some ⟨ba, oa, none⟩) la ca, .slice (some ⟨bb, ob, none⟩) lb cb] w fun e w' =>
      e = .returned (.tuple #[]) ∧ ∃ h, Cells w' .u64 g 0 N h ∧ U32 N h ∧ val W32 h N = ((x * y : Nat) : Int) ∧ Upd w w' g 0 N := by
  have hglt := hout.lt (show 0 < N by omega)
  have hxl := lt_pow_nl W32 x (by decide)
  have hyl := lt_pow_nl W32 y (by decide)
  rw [hnx] at hxl
  rw [hny] at hyl
  have hHb : 0 < H ∧ H < la ∧ H ≤ lb ∧ la ≤ 2 * H ∧ 2 * H ≤ la + 1 := by omega
  obtain ⟨b1, b2, b3, b4, b5⟩ := hHb
  have hHi : ((la : Int) + 1) / 2 = (H : Int) := by omega
  have hWH : 0 < W32 ^ H := Nat.pow_pos (by decide)
  -- the halves
  have hA1 : Rep w (.slice (some ⟨ba, oa + H, none⟩) (la - H) (ca - H)) (x / W32 ^ H) := rep_hi ha hnx (by omega) hca (by unfold LIM; omega)
  have hB1 : Rep w (.slice (some ⟨bb, ob + H, none⟩) (lb - H) (cb - H)) (y / W32 ^ H) := by
    exact rep_hi hb hny (by omega) hcb (by unfold LIM; omega)
  have hA0 : Nums .u64 w (.slice (some ⟨ba, oa, none⟩) H ca) H (dg W32 x) := ⟨_, _, rfl, by omega, by unfold LIM; omega, fun _ => ⟨_, _, rfl, ha.mono (by omega)⟩⟩
  have hB0 : Nums .u64 w (.slice (some ⟨bb, ob, none⟩) H cb) H (dg W32 y) := ⟨_, _, rfl, by omega, by unfold LIM; omega, fun _ => ⟨_, _, rfl, hb.mono (by omega)⟩⟩
  have VA0 : Hid (val W32 (dg W32 x) H = ((x % W32 ^ H : Nat) : Int)) := val_dg W32 x H
  have VB0 : Hid (val W32 (dg W32 y) H = ((y % W32 ^ H : Nat) : Int)) := val_dg W32 y H
  have hUa : ∀ i, i < H → 0 ≤ dg W32 x i ∧ dg W32 x i < (W32 : Int) := fun i _ => dg_bounds W32 x i (by decide)
  have hUb : ∀ i, i < H → 0 ≤ dg W32 y i ∧ dg W32 y i < (W32 : Int) := fun i _ => dg_bounds W32 y i (by decide)
  have ex : x % W32 ^ H + x / W32 ^ H * W32 ^ H = x := by rw [Nat.mul_comm]; have := Nat.div_add_mod x (W32 ^ H); omega
  have ey : y % W32 ^ H + y / W32 ^ H * W32 ^ H = y := by rw [Nat.mul_comm]; have := Nat.div_add_mod y (W32 ^ H); omega
  have lx0 : x % W32 ^ H < W32 ^ H := Nat.mod_lt _ hWH
  have ly0 : y % W32 ^ H < W32 ^ H := Nat.mod_lt _ hWH
  have lx1 : x / W32 ^ H < W32 ^ H := Nat.div_lt_of_lt_mul (by rw [← Nat.pow_add]; exact Nat.lt_of_lt_of_le hxl (Nat.pow_le_pow_right (by decide) (by omega)))
  have ly1 : y / W32 ^ H < W32 ^ H := Nat.div_lt_of_lt_mul (by rw [← Nat.pow_add]; exact Nat.lt_of_lt_of_le hyl (Nat.pow_le_pow_right (by decide) (by omega)))
  have hx1p : 0 < x / W32 ^ H := by
    refine Nat.div_pos ?_ hWH
    have := pow_le_of_nl W32 x (by omega)
    rw [hnx] at this
    exact Nat.le_trans (Nat.pow_le_pow_right (by decide) (by omega)) this
  have hyp : 0 < y % W32 ^ H + y / W32 ^ H := by
    rcases Nat.eq_zero_or_pos (y % W32 ^ H + y / W32 ^ H) with e | e
    · have e1 : y % W32 ^ H = 0 := (Nat.add_eq_zero_iff.1 e).1
      have e2 : y / W32 ^ H = 0 := (Nat.add_eq_zero_iff.1 e).2
      rw [e1, e2, Nat.zero_mul] at ey
      rw [← ey, nl_zero] at hny; omega
    · exact e
  have hxy : x * y < W32 ^ N := by rw [hN, Nat.pow_add]; exact Nat.mul_lt_mul_of_lt_of_lt hxl hyl
  generalize x % W32 ^ H = x0 at *
  generalize x / W32 ^ H = x1 at *
  generalize y % W32 ^ H = y0 at *
  generalize y / W32 ^ H = y1 at *
  obtain ⟨k1, k2⟩ := kara_sum x0 x1 y0 y1 (W32 ^ H)
  rw [ex, ey, ← Nat.pow_add] at k2
  have nx0 := nl_le W32 x0 H (by decide) lx0
  have ny0 := nl_le W32 y0 H (by decide) ly0
  have nx1 := nl_le W32 x1 H (by decide) lx1
  have ny1 := nl_le W32 y1 H (by decide) ly1
  have hW2 : W32 ^ H * 2 ≤ W32 ^ (H + 1) := by rw [Nat.pow_succ]; exact Nat.mul_le_mul_left _ (by decide)
  have nsx : nl W32 (x0 + x1) ≤ H + 1 := nl_le W32 _ _ (by decide) (by omega)
  have nsy : nl W32 (y0 + y1) ≤ H + 1 := nl_le W32 _ _ (by decide) (by omega)
  have I1 : Hid (ProdAt x0 y0) := IH x0 y0 (by omega)
  have I2 : Hid (ProdAt x1 y1) := IH x1 y1 (by omega)
  have I3 : Hid (ProdAt (x0 + x1) (y0 + y1)) := IH _ _ (by omega)
  have hmid : 0 < (x0 + x1) * (y0 + y1) := Nat.mul_pos (by omega) hyp
  generalize hM : (x0 + x1) * (y0 + y1) = M at *
  generalize hLo : x0 * y0 = lo' at *
  generalize hHi2 : x1 * y1 = hi' at *
  generalize x0 * y1 + x1 * y0 = K at *
  have hnlo : nl W32 lo' ≤ nl W32 M := by
    by_cases q : nl W32 M < nl W32 lo'
    · have := lt_of_nl W32 M lo' (by decide) q; omega
    · omega
  have hnhi : nl W32 hi' ≤ nl W32 M := by
    by_cases q : nl W32 M < nl W32 hi'
    · have := lt_of_nl W32 M hi' (by decide) q; omega
    · omega
  have hM0 : 0 < nl W32 M := by
    rcases Nat.eq_zero_or_pos (nl W32 M) with e | e
    · have := (nl_eq_zero W32 M (by decide)).1 e; omega
    · exact e
  have i1 : (0 : Int) ≤ (H : Int) := by omega
  have i2 : (H : Int) ≤ (la : Int) := by omega
  have i3 : (H : Int) ≤ (ca : Int) := by omega
  have i4 : (H : Int) ≤ (lb : Int) := by omega
  have i5 : (H : Int) ≤ (cb : Int) := by omega
  have i6 : (H : Int) ≤ (N : Int) := by omega
  have n1 : ¬ ca = H := by omega
  have n2 : ¬ N = H := by omega
  have n3 : ¬ N = 2 * H := by omega
  have i7 : 2 * (H : Int) ≤ (N : Int) := by omega
  have hNL : N ≤ LIM := by unfold LIM; omega
  have j1 : 2 * H ≤ N := by omega
  have j2 : H ≤ N := by omega
  have nxs : nl W32 x0 ≤ 1000000 ∧ nl W32 x1 ≤ 1000000 ∧ nl W32 y0 ≤ 1000000 ∧ nl W32 y1 ≤ 1000000 := by omega
  clear hN hH IH ex ey hxl hyl lx0 ly0 lx1 ly1 hW2 nsx nsy
  go_enter Try.func55, Try.ntmps55
  go_wp2
  go_region_held3 (fun _ => True) (trivial) (first
    | (go_at_call 56; refine (cut_nums (.slice (some ⟨ba, oa, none⟩) H ca) H _ _ x0 (by exact hA0) hUa VA0.out).mono ?_; rintro e wc ⟨va0, rfl, hva0, rfl⟩))
  go_wp2
  go_region_held3 (fun _ => True) (trivial) (first
    | (go_at_call 56; refine (cut_nums (.slice (some ⟨bb, ob, none⟩) H cb) H _ _ y0 (by exact hB0) hUb VB0.out).mono ?_; rintro e wc ⟨vb0, rfl, hvb0, rfl⟩))
  have q0 : Hid (lo' + K * W32 ^ H + hi' * W32 ^ (H + H) = x * y) := k2
  have q1 : Hid (M = lo' + hi' + K) := by show _ = _; rw [← k1]
  have q2 : Hid (x * y < W32 ^ N) := hxy
  have q3 : Hid (x0 * y0 = lo') := hLo
  have q4 : Hid (x1 * y1 = hi') := hHi2
  have q5 : Hid ((x0 + x1) * (y0 + y1) = M) := hM
  clear k1 k2 hxy hLo hHi2 hM hnx hny hA0 hB0 hUa hUb VA0 VB0
  go_wp2_with fail
  refine (I1.out _ _ _ (by exact hva0) (by exact hvb0)).mono ?_
  rintro e w1 ⟨vl, rfl, hvl0, hb10⟩
  have hvl : RepM w.heap.size w1 vl lo' := (by rw [← q3.out]; exact hvl0)
  have hb1 : Below w.heap.size w w1 := ⟨hb10.os, hb10.tape, hb10.output, hb10.size, hb10.block⟩
  have s1 := hb1.size
  have hA1a := Nums.below hA1 hb1
  have hB1a := Nums.below hB1 hb1
  go_wp2_with fail
  refine (I2.out _ _ _ (by exact hA1a) (by exact hB1a)).mono ?_
  rintro e w2 ⟨vh, rfl, hvh0, hb2⟩
  have hvh : RepM w1.heap.size w2 vh hi' := (by rw [← q4.out]; exact hvh0)
  have s2 := hb2.size
  have hva2 := Nums.below (Nums.below (show Rep w va0 x0 from hva0) hb1) hb2
  have hvb2 := Nums.below (Nums.below (show Rep w vb0 y0 from hvb0) hb1) hb2
  have hA2 := Nums.below hA1a hb2
  have hB2 := Nums.below hB1a hb2
  go_wp2_with fail
  refine (sum_any _ _ x0 x1 _ (by exact hva2) (by exact hA2) (by omega) (by omega)).mono ?_
  rintro e w3 ⟨vs, rfl, hvs, hb3⟩
  have s3 := hb3.size
  have hvb3 := Nums.below hvb2 hb3
  have hB3 := Nums.below hB2 hb3
  go_wp2_with fail
  refine (sum_any _ _ y0 y1 _ (by exact hvb3) (by exact hB3) (by omega) (by omega)).mono ?_
  rintro e w4 ⟨vt, rfl, hvt, hb4⟩
  have s4 := hb4.size
  have hvs4 := Nums.below hvs.rep hb4
  go_wp2_with fail
  refine (I3.out _ _ _ (by exact hvs4) (by exact hvt.rep)).mono ?_
  rintro e w5 ⟨vm, rfl, hvm0, hb5⟩
  have hvm : RepM w4.heap.size w5 vm M := (by rw [← q5.out]; exact hvm0)
  have s5 := hb5.size
  clear hvs hvt hvs4 hvb3 hB3 hva2 hvb2 hA2 hB2 hA1a hB1a hvm0 hvh0 hvl0 I1 I2 I3 q3 q4 q5
  have hvl5 : Rep w5 vl lo' := Nums.below (Nums.below (Nums.below (Nums.below hvl.rep hb2) hb3) hb4) hb5
  have hvh5 : Rep w5 vh hi' := Nums.below (Nums.below (Nums.below hvh.rep hb3) hb4) hb5
  have hB5 : Below w.heap.size w w5 := hb1.trans ((hb2.mono s1).trans ((hb3.mono (by omega)).trans ((hb4.mono (by omega)).trans (hb5.mono (by omega)))))
  have hvlne : 0 < nl W32 lo' → ∀ b o c, vl = .slice (some ⟨b, o, none⟩) (nl W32 lo') c → b < w1.heap.size := repM_lt hvl
  have hvhne : 0 < nl W32 hi' → ∀ b o c, vh = .slice (some ⟨b, o, none⟩) (nl W32 hi') c → b < w2.heap.size := repM_lt hvh
  have hvlg := repM_ne hvl hglt
  have hvhg := repM_ne hvh (g := g) (by omega)
  have vM : Hid (val W32 (dg W32 M) (nl W32 M) = (M : Int)) := val_nl W32 M (by decide)
  have vL : Hid (val W32 (dg W32 lo') (nl W32 lo') = (lo' : Int)) := val_nl W32 lo' (by decide)
  have vH : Hid (val W32 (dg W32 hi') (nl W32 hi') = (hi' : Int)) := val_nl W32 hi' (by decide)
  have hout5 := hout.below hB5 hglt
  have hs5 := hs.below hB5 hglt
  clear hb1 hb2 hb3 hb4 hb5 hvl hvh hb10
  obtain ⟨mo, mc, rfl, hmc, hml, hm4⟩ := hvm
  obtain ⟨bm, om, rfl, hcm, hsm, hBm⟩ := hm4 hM0
  clear hm4
  have hum := u32_dg M (nl W32 M)
  have hbm5 := hcm.lt hM0
  generalize nl W32 M = nM at *
  go_wp2_with fail
  refine (takeFrom_any bm om nM mc vl (nl W32 lo') (dg W32 M) (dg W32 lo') _ hml hnlo hcm hsm hum hvl5 (u32_dg _ _) (fun hp b o c he => by have := hvlne hp b o c he; omega) (by rw [vM.out, vL.out]; have := q1.out; clear hWH; omega)).mono ?_
  rintro e w6 ⟨rfl, h6, hc6, hu6, hv6, hup6⟩
  have hvl6 : Rep w6 vl lo' := Nums.upd hvl5 hup6 (fun b o c he hp => by have := hvlne hp b o c he; omega)
  have hvh6 : Rep w6 vh hi' := Nums.upd hvh5 hup6 (fun b o c he hp => by have := hvhne hp b o c he; omega)
  have hsm6 := hsm.upd hbm5 hup6
  go_wp2_with fail
  refine (takeFrom_any bm om nM mc vh (nl W32 hi') h6 (dg W32 hi') _ hml hnhi hc6 hsm6 hu6 hvh6 (u32_dg _ _) (fun hp b o c he => by have := hvhne hp b o c he; omega) (by rw [hv6, vM.out, vL.out, vH.out]; have := q1.out; clear hWH; omega)).mono ?_
  rintro e w7 ⟨rfl, h7, hc7, hu7, hv7, hup7⟩
  have hvl7 : Rep w7 vl lo' := Nums.upd hvl6 hup7 (fun b o c he hp => by have := hvlne hp b o c he; omega)
  have hvh7 : Rep w7 vh hi' := Nums.upd hvh6 hup7 (fun b o c he hp => by have := hvhne hp b o c he; omega)
  have hbm6 := hc6.lt hM0
  have hsm7 := hsm6.upd hbm6 hup7
  have hB7 : Below w.heap.size w w7 := hB5.trans ((hup6.below (by omega) hB5.size).trans (hup7.below (by omega) (Nat.le_trans hB5.size hup6.size)))
  have hout7 := hout.below hB7 hglt
  have hs7 := hs.below hB7 hglt
  have hK : Hid (val W32 h7 nM = (K : Int)) := by show _ = _; rw [hv7, hv6, vM.out, vL.out, vH.out]; have := q1.out; omega
  have hbm7 := hc7.lt hM0
  have hgbm : g ≠ bm := by omega
  clear hv6 hv7 hc6 hu6 hcm hsm hum hsm6 hup6 hup7 hvl5 hvl6 hvh5 hvh6 hB5 hout5 hs5 hbm5 hbm6 vM q1 hout hs
  -- adding up
  have hT1 : Hid (lo' + K * W32 ^ H < W32 ^ N) := by show _ < _; have := q0.out; have := q2.out; omega
  have hT0 : Hid (lo' < W32 ^ N) := by show _ < _; have := hT1.out; omega
  have hloN : nl W32 lo' ≤ N := nl_le W32 _ _ (by decide) hT0.out
  have cN : Hid ((W32 : Int) ^ N = ((W32 ^ N : Nat) : Int)) := by show _ = _; simp
  go_wp2_with fail
  refine (addInto_any g 0 N N vl (nl W32 lo') (fun _ => 0) (dg W32 lo') _ hNL hloN hout7 hs7 (fun _ _ => ⟨Int.le_refl _, (by decide : (0 : Int) < (W32 : Int))⟩) hvl7 (u32_dg _ _) hvlg (by rw [val_zero N (fun _ _ => rfl), vL.out, cN.out]; have := hT0.out; omega)).mono ?_
  rintro e w8 ⟨rfl, h8, hc8, hu8, hv8, hup8⟩
  have hv8' : Hid (val W32 h8 N = (lo' : Int)) := by show _ = _; rw [hv8, val_zero N (fun _ _ => rfl), vL.out]; omega
  have hvh8 : Rep w8 vh hi' := Nums.upd hvh7 hup8 (fun b o c he hp => hvhg hp b o c he)
  have hc78 := hc7.upd hup8 (.inl (Ne.symm hgbm))
  have hsm8 := hsm7.upd hbm7 hup8
  have hg7 := hout7.lt (show 0 < N by omega)
  have hs8 := hs7.upd hg7 hup8
  have hMine : Mine .u64 (g + 1) w8 (.slice (some ⟨bm, om, none⟩) nM mc) nM h7 := ⟨_, _, rfl, hmc, hml, fun _ => ⟨_, _, rfl, hc78, hsm8, by omega⟩⟩
  have hUw8 : Upd w w8 g 0 N := (Upd.of_below hB7 hglt).trans hup8
  clear hv8 hvl7 hvh7 hup8 hc7 hc78 hsm7 hsm8 hs7 hout7 hvlne hvlg vL hT0 hB7
  have HA1 : Hid (∀ h2 : Nat → Int, val W32 (fun j => h8 (H + j)) (N - H) + (K : Int) < (W32 : Int) ^ (N - H) ∧ (val W32 h2 (N - H) = val W32 (fun j => h8 (H + j)) (N - H) + (K : Int) → val W32 (layEnd h8 h2 H) N = ((lo' + K * W32 ^ H : Nat) : Int))) := fun h2 => add_from h8 h2 N H lo' K _ j2 hu8 hv8'.out rfl hT1.out
  have hKnl : nl W32 K ≤ N - H := by
    refine nl_le W32 _ _ (by decide) ?_
    have h1 := (HA1.out (fun _ => 0)).1
    have h2 := (val_bounds W32 (fun j => h8 (H + j)) (N - H) (fun j hj => hu8 (H + j) (by omega))).1
    have e : ((W32 ^ (N - H) : Nat) : Int) = (W32 : Int) ^ (N - H) := by simp
    omega
  have vK : Hid (val W32 (dg W32 K) (nl W32 K) = (K : Int)) := val_nl W32 K (by decide)
  have hrow8 : Cells w8 .u64 g H (N - H) (fun j => h8 (H + j)) := by
    have := hc8.from H (N - H) (by omega); rw [Nat.zero_add] at this; exact this
  have hsrow8 : Soft w8 g H (N - H) := by
    have := hs8.from H (N - H) (by omega); rw [Nat.zero_add] at this; exact this
  have hurow8 : U32 (N - H) (fun j => h8 (H + j)) := fun j hj => hu8 (H + j) (by omega)
  have hlim8 : N - H ≤ LIM := by unfold LIM at *; omega
  have hg1 : g < g + 1 := by omega
  clear ha hb hA1 hB1 hva0 hvb0 nx0 ny0 nx1 ny1 nxs hx1p hyp hmid
  have hg8 := hc8.lt (show 0 < N by omega)
  go_wp2
  go_region_held3 (fun _ => True) (trivial) (first
    | (go_at_call 56; refine (cut_mine (g + 1) (.slice (some ⟨bm, om, none⟩) nM mc) nM h7 _ K (by exact hMine) hu7 hK.out).mono ?_; rintro e wc ⟨vk, rfl, hvk0, rfl⟩; have hvk : RepM (g + 1) w8 vk K := hvk0)
    | (go_at_call 61; refine (addInto_any g H (N - H) (N - H) vk (nl W32 K) (fun j => h8 (H + j)) (dg W32 K) _ hlim8 hKnl (by exact hrow8) (by exact hsrow8) hurow8 (by exact hvk.rep) (u32_dg _ _) (repM_ne hvk hg1) (by rw [vK.out]; exact (HA1.out (fun _ => 0)).1)).mono ?_; rintro e w9 ⟨rfl, h9, hc9, hu9, hv9, hup90⟩; have hup9 : Upd w8 w9 g H (N - H) := ⟨hup90.os, hup90.tape, hup90.output, hup90.size, hup90.block, hup90.cell, hup90.froz⟩))
  rw [vK.out] at hv9
  have hvN9 : Hid (val W32 (layEnd h8 h9 H) N = ((lo' + K * W32 ^ H : Nat) : Int)) := (HA1.out h9).2 hv9
  have hcN9 := cells_layEnd hc8 hc9 hup9
  have huN9 := u32_layEnd hu8 hu9
  have hs9 := hs8.upd hg8 hup9
  have hvh9 : Rep w9 vh hi' := Nums.upd hvh8 hup9 (fun b o c he hp => hvhg hp b o c he)
  have hUw9 : Upd w w9 g 0 N := hUw8.trans (hup9.mono (by omega) (by omega))
  clear hup9 hup90 hc9 hv9 hu9 hvk hvk0 HA1 vK hrow8 hsrow8 hurow8 hlim8 hv8' hc8 hu8 hs8 hvh8 hUw8 hMine hK hKnl hu7
  generalize layEnd h8 h9 H = h10 at *
  have HA2 : Hid (∀ h2 : Nat → Int, val W32 (fun j => h10 (2 * H + j)) (N - 2 * H) + (hi' : Int) < (W32 : Int) ^ (N - 2 * H) ∧ (val W32 h2 (N - 2 * H) = val W32 (fun j => h10 (2 * H + j)) (N - 2 * H) + (hi' : Int) → val W32 (layEnd h10 h2 (2 * H)) N = ((x * y : Nat) : Int))) := fun h2 => add_from h10 h2 N (2 * H) _ hi' _ j1 huN9 hvN9.out (by rw [Nat.two_mul]; exact q0.out) q2.out
  have hHnl : nl W32 hi' ≤ N - 2 * H := by
    refine nl_le W32 _ _ (by decide) ?_
    have h1 := (HA2.out (fun _ => 0)).1
    have h2 := (val_bounds W32 (fun j => h10 (2 * H + j)) (N - 2 * H) (fun j hj => huN9 (2 * H + j) (by omega))).1
    have e : ((W32 ^ (N - 2 * H) : Nat) : Int) = (W32 : Int) ^ (N - 2 * H) := by simp
    omega
  have hrow9 : Cells w9 .u64 g (2 * H) (N - 2 * H) (fun j => h10 (2 * H + j)) := by
    have := hcN9.from (2 * H) (N - 2 * H) (by omega); rw [Nat.zero_add] at this; exact this
  have hsrow9 : Soft w9 g (2 * H) (N - 2 * H) := by
    have := hs9.from (2 * H) (N - 2 * H) (by omega); rw [Nat.zero_add] at this; exact this
  have hurow9 : U32 (N - 2 * H) (fun j => h10 (2 * H + j)) := fun j hj => huN9 (2 * H + j) (by omega)
  have hlim9 : N - 2 * H ≤ LIM := by unfold LIM at *; omega
  have hg9 := hcN9.lt (show 0 < N by omega)
  go_wp2_with fail
  refine (addInto_any g (2 * H) (N - 2 * H) (N - 2 * H) vh (nl W32 hi') (fun j => h10 (2 * H + j)) (dg W32 hi') _ hlim9 hHnl hrow9 hsrow9 hurow9 hvh9 (u32_dg _ _) hvhg (by rw [vH.out]; exact (HA2.out (fun _ => 0)).1)).mono ?_
  rintro e w10 ⟨rfl, h11, hc11, hu11, hv11, hup11⟩
  rw [vH.out] at hv11
  have hvN := (HA2.out h11).2 hv11
  have hcN := cells_layEnd hcN9 hc11 hup11
  have huN := u32_layEnd huN9 hu11
  have hUw := hUw9.trans (hup11.mono (by omega) (by omega))
  generalize layEnd h10 h11 (2 * H) = h12 at *
  clear hup11 hc11 hv11 hu11 hcN9 huN9 hs9 hvh9 hUw9 HA2 hHnl hrow9 hsrow9 hurow9 hlim9
  go_wp2
  go_end0
  exact ⟨rfl, h12, hcN, huN, hvN, hUw⟩

set_option maxRecDepth 20000 in
set_option maxHeartbeats 2000000 in
theorem halves_tight (g N ba oa la ca bb ob x y H : Nat) (w : World) (hN : N = la + H) (hH : H = (la + 1) / 2) (h40 : 40 ≤ H) (hl : la ≤ 400000) (hlb2 : H ≤ la) (h2 : la < 2 * H) (hca : la ≤ ca)
    (hout : Cells w .u64 g 0 N (fun _ => 0)) (hs : Soft w g 0 N) (ha : Cells w .u64 ba oa la (dg W32 x)) (hb : Cells w .u64 bb ob H (dg W32 y))
    (hnx : nl W32 x = la) (hny : nl W32 y = H) (IH : ∀ p q, nl W32 p + nl W32 q < la + H → ProdAt p q) :
    Calls Try.prog 55 #[.slice (some ⟨g, 0, none⟩) N N, .slice (some ⟨ba, oa, none⟩) la ca, .slice (some ⟨bb, ob, none⟩) H H] w fun e w' =>
      e = .returned (.tuple #[]) ∧ ∃ h, Cells w' .u64 g 0 N h ∧ U32 N h ∧ val W32 h N = ((x * y : Nat) : Int) ∧ Upd w w' g 0 N := by
  have hglt := hout.lt (show 0 < N by omega)
  have hxl := lt_pow_nl W32 x (by decide)
  have hyl := lt_pow_nl W32 y (by decide)
  rw [hnx] at hxl
  rw [hny] at hyl
  have hHb : 0 < H ∧ H < la ∧ H ≤ H ∧ la ≤ 2 * H ∧ 2 * H ≤ la + 1 := by omega
  obtain ⟨b1, b2, b3, b4, b5⟩ := hHb
  have hHi : ((la : Int) + 1) / 2 = (H : Int) := by omega
  have hWH : 0 < W32 ^ H := Nat.pow_pos (by decide)
  -- the halves
  have hA1 : Rep w (.slice (some ⟨ba, oa + H, none⟩) (la - H) (ca - H)) (x / W32 ^ H) := rep_hi ha hnx (by omega) hca (by unfold LIM; omega)
  have hB1 : Rep w (.slice (some ⟨bb, ob, none⟩) 0 0) (y / W32 ^ H) := by
    have e : y / W32 ^ H = 0 := Nat.div_eq_of_lt hyl
    rw [e]; unfold Rep; rw [nl_zero]
    exact ⟨_, _, rfl, Nat.le_refl _, Nat.zero_le _, fun h => absurd h (by omega)⟩
  have hA0 : Nums .u64 w (.slice (some ⟨ba, oa, none⟩) H ca) H (dg W32 x) := ⟨_, _, rfl, by omega, by unfold LIM; omega, fun _ => ⟨_, _, rfl, ha.mono (by omega)⟩⟩
  have hB0 : Nums .u64 w (.slice (some ⟨bb, ob, none⟩) H H) H (dg W32 y) := ⟨_, _, rfl, by omega, by unfold LIM; omega, fun _ => ⟨_, _, rfl, hb.mono (by omega)⟩⟩
  have VA0 : Hid (val W32 (dg W32 x) H = ((x % W32 ^ H : Nat) : Int)) := val_dg W32 x H
  have VB0 : Hid (val W32 (dg W32 y) H = ((y % W32 ^ H : Nat) : Int)) := val_dg W32 y H
  have hUa : ∀ i, i < H → 0 ≤ dg W32 x i ∧ dg W32 x i < (W32 : Int) := fun i _ => dg_bounds W32 x i (by decide)
  have hUb : ∀ i, i < H → 0 ≤ dg W32 y i ∧ dg W32 y i < (W32 : Int) := fun i _ => dg_bounds W32 y i (by decide)
  have ex : x % W32 ^ H + x / W32 ^ H * W32 ^ H = x := by rw [Nat.mul_comm]; have := Nat.div_add_mod x (W32 ^ H); omega
  have ey : y % W32 ^ H + y / W32 ^ H * W32 ^ H = y := by rw [Nat.mul_comm]; have := Nat.div_add_mod y (W32 ^ H); omega
  have lx0 : x % W32 ^ H < W32 ^ H := Nat.mod_lt _ hWH
  have ly0 : y % W32 ^ H < W32 ^ H := Nat.mod_lt _ hWH
  have lx1 : x / W32 ^ H < W32 ^ H := Nat.div_lt_of_lt_mul (by rw [← Nat.pow_add]; exact Nat.lt_of_lt_of_le hxl (Nat.pow_le_pow_right (by decide) (by omega)))
  have ly1 : y / W32 ^ H < W32 ^ H := Nat.div_lt_of_lt_mul (by rw [← Nat.pow_add]; exact Nat.lt_of_lt_of_le hyl (Nat.pow_le_pow_right (by decide) (by omega)))
  have hx1p : 0 < x / W32 ^ H := by
    refine Nat.div_pos ?_ hWH
    have := pow_le_of_nl W32 x (by omega)
    rw [hnx] at this
    exact Nat.le_trans (Nat.pow_le_pow_right (by decide) (by omega)) this
  have hyp : 0 < y % W32 ^ H + y / W32 ^ H := by
    rcases Nat.eq_zero_or_pos (y % W32 ^ H + y / W32 ^ H) with e | e
    · have e1 : y % W32 ^ H = 0 := (Nat.add_eq_zero_iff.1 e).1
      have e2 : y / W32 ^ H = 0 := (Nat.add_eq_zero_iff.1 e).2
      rw [e1, e2, Nat.zero_mul] at ey
      rw [← ey, nl_zero] at hny; omega
    · exact e
  have hxy : x * y < W32 ^ N := by rw [hN, Nat.pow_add]; exact Nat.mul_lt_mul_of_lt_of_lt hxl hyl
  generalize x % W32 ^ H = x0 at *
  generalize x / W32 ^ H = x1 at *
  generalize y % W32 ^ H = y0 at *
  generalize y / W32 ^ H = y1 at *
  obtain ⟨k1, k2⟩ := kara_sum x0 x1 y0 y1 (W32 ^ H)
  rw [ex, ey, ← Nat.pow_add] at k2
  have nx0 := nl_le W32 x0 H (by decide) lx0
  have ny0 := nl_le W32 y0 H (by decide) ly0
  have nx1 := nl_le W32 x1 H (by decide) lx1
  have ny1 := nl_le W32 y1 H (by decide) ly1
  have hW2 : W32 ^ H * 2 ≤ W32 ^ (H + 1) := by rw [Nat.pow_succ]; exact Nat.mul_le_mul_left _ (by decide)
  have nsx : nl W32 (x0 + x1) ≤ H + 1 := nl_le W32 _ _ (by decide) (by omega)
  have nsy : nl W32 (y0 + y1) ≤ H + 1 := nl_le W32 _ _ (by decide) (by omega)
  have I1 : Hid (ProdAt x0 y0) := IH x0 y0 (by omega)
  have I2 : Hid (ProdAt x1 y1) := IH x1 y1 (by omega)
  have I3 : Hid (ProdAt (x0 + x1) (y0 + y1)) := IH _ _ (by omega)
  have hmid : 0 < (x0 + x1) * (y0 + y1) := Nat.mul_pos (by omega) hyp
  generalize hM : (x0 + x1) * (y0 + y1) = M at *
  generalize hLo : x0 * y0 = lo' at *
  generalize hHi2 : x1 * y1 = hi' at *
  generalize x0 * y1 + x1 * y0 = K at *
  have hnlo : nl W32 lo' ≤ nl W32 M := by
    by_cases q : nl W32 M < nl W32 lo'
    · have := lt_of_nl W32 M lo' (by decide) q; omega
    · omega
  have hnhi : nl W32 hi' ≤ nl W32 M := by
    by_cases q : nl W32 M < nl W32 hi'
    · have := lt_of_nl W32 M hi' (by decide) q; omega
    · omega
  have hM0 : 0 < nl W32 M := by
    rcases Nat.eq_zero_or_pos (nl W32 M) with e | e
    · have := (nl_eq_zero W32 M (by decide)).1 e; omega
    · exact e
  have i1 : (0 : Int) ≤ (H : Int) := by omega
  have i2 : (H : Int) ≤ (la : Int) := by omega
  have i3 : (H : Int) ≤ (ca : Int) := by omega
  have i4 : (H : Int) ≤ (H : Int) := by omega
  have i5 : (H : Int) ≤ (H : Int) := by omega
  have i6 : (H : Int) ≤ (N : Int) := by omega
  have n1 : ¬ ca = H := by omega
  have n2 : ¬ N = H := by omega
  have n3 : ¬ N = 2 * H := by omega
  have i7 : 2 * (H : Int) ≤ (N : Int) := by omega
  have hNL : N ≤ LIM := by unfold LIM; omega
  have j1 : 2 * H ≤ N := by omega
  have j2 : H ≤ N := by omega
  have nxs : nl W32 x0 ≤ 1000000 ∧ nl W32 x1 ≤ 1000000 ∧ nl W32 y0 ≤ 1000000 ∧ nl W32 y1 ≤ 1000000 := by omega
  clear hN hH IH ex ey hxl hyl lx0 ly0 lx1 ly1 hW2 nsx nsy
  go_enter Try.func55, Try.ntmps55
  go_wp2
  go_region_held3 (fun _ => True) (trivial) (first
    | (go_at_call 56; refine (cut_nums (.slice (some ⟨ba, oa, none⟩) H ca) H _ _ x0 (by exact hA0) hUa VA0.out).mono ?_; rintro e wc ⟨va0, rfl, hva0, rfl⟩))
  go_wp2
  go_region_held3 (fun _ => True) (trivial) (first
    | (go_at_call 56; refine (cut_nums (.slice (some ⟨bb, ob, none⟩) H H) H _ _ y0 (by exact hB0) hUb VB0.out).mono ?_; rintro e wc ⟨vb0, rfl, hvb0, rfl⟩))
  have q0 : Hid (lo' + K * W32 ^ H + hi' * W32 ^ (H + H) = x * y) := k2
  have q1 : Hid (M = lo' + hi' + K) := by show _ = _; rw [← k1]
  have q2 : Hid (x * y < W32 ^ N) := hxy
  have q3 : Hid (x0 * y0 = lo') := hLo
  have q4 : Hid (x1 * y1 = hi') := hHi2
  have q5 : Hid ((x0 + x1) * (y0 + y1) = M) := hM
  clear k1 k2 hxy hLo hHi2 hM hnx hny hA0 hB0 hUa hUb VA0 VB0
  go_wp2_with fail
  refine (I1.out _ _ _ (by exact hva0) (by exact hvb0)).mono ?_
  rintro e w1 ⟨vl, rfl, hvl0, hb10⟩
  have hvl : RepM w.heap.size w1 vl lo' := (by rw [← q3.out]; exact hvl0)
  have hb1 : Below w.heap.size w w1 := ⟨hb10.os, hb10.tape, hb10.output, hb10.size, hb10.block⟩
  have s1 := hb1.size
  have hA1a := Nums.below hA1 hb1
  have hB1a := Nums.below hB1 hb1
  go_wp2_with fail
  refine (I2.out _ _ _ (by exact hA1a) (by exact hB1a)).mono ?_
  rintro e w2 ⟨vh, rfl, hvh0, hb2⟩
  have hvh : RepM w1.heap.size w2 vh hi' := (by rw [← q4.out]; exact hvh0)
  have s2 := hb2.size
  have hva2 := Nums.below (Nums.below (show Rep w va0 x0 from hva0) hb1) hb2
  have hvb2 := Nums.below (Nums.below (show Rep w vb0 y0 from hvb0) hb1) hb2
  have hA2 := Nums.below hA1a hb2
  have hB2 := Nums.below hB1a hb2
  go_wp2_with fail
  refine (sum_any _ _ x0 x1 _ (by exact hva2) (by exact hA2) (by omega) (by omega)).mono ?_
  rintro e w3 ⟨vs, rfl, hvs, hb3⟩
  have s3 := hb3.size
  have hvb3 := Nums.below hvb2 hb3
  have hB3 := Nums.below hB2 hb3
  go_wp2_with fail
  refine (sum_any _ _ y0 y1 _ (by exact hvb3) (by exact hB3) (by omega) (by omega)).mono ?_
  rintro e w4 ⟨vt, rfl, hvt, hb4⟩
  have s4 := hb4.size
  have hvs4 := Nums.below hvs.rep hb4
  go_wp2_with fail
  refine (I3.out _ _ _ (by exact hvs4) (by exact hvt.rep)).mono ?_
  rintro e w5 ⟨vm, rfl, hvm0, hb5⟩
  have hvm : RepM w4.heap.size w5 vm M := (by rw [← q5.out]; exact hvm0)
  have s5 := hb5.size
  clear hvs hvt hvs4 hvb3 hB3 hva2 hvb2 hA2 hB2 hA1a hB1a hvm0 hvh0 hvl0 I1 I2 I3 q3 q4 q5
  have hvl5 : Rep w5 vl lo' := Nums.below (Nums.below (Nums.below (Nums.below hvl.rep hb2) hb3) hb4) hb5
  have hvh5 : Rep w5 vh hi' := Nums.below (Nums.below (Nums.below hvh.rep hb3) hb4) hb5
  have hB5 : Below w.heap.size w w5 := hb1.trans ((hb2.mono s1).trans ((hb3.mono (by omega)).trans ((hb4.mono (by omega)).trans (hb5.mono (by omega)))))
  have hvlne : 0 < nl W32 lo' → ∀ b o c, vl = .slice (some ⟨b, o, none⟩) (nl W32 lo') c → b < w1.heap.size := repM_lt hvl
  have hvhne : 0 < nl W32 hi' → ∀ b o c, vh = .slice (some ⟨b, o, none⟩) (nl W32 hi') c → b < w2.heap.size := repM_lt hvh
  have hvlg := repM_ne hvl hglt
  have hvhg := repM_ne hvh (g := g) (by omega)
  have vM : Hid (val W32 (dg W32 M) (nl W32 M) = (M : Int)) := val_nl W32 M (by decide)
  have vL : Hid (val W32 (dg W32 lo') (nl W32 lo') = (lo' : Int)) := val_nl W32 lo' (by decide)
  have vH : Hid (val W32 (dg W32 hi') (nl W32 hi') = (hi' : Int)) := val_nl W32 hi' (by decide)
  have hout5 := hout.below hB5 hglt
  have hs5 := hs.below hB5 hglt
  clear hb1 hb2 hb3 hb4 hb5 hvl hvh hb10
  obtain ⟨mo, mc, rfl, hmc, hml, hm4⟩ := hvm
  obtain ⟨bm, om, rfl, hcm, hsm, hBm⟩ := hm4 hM0
  clear hm4
  have hum := u32_dg M (nl W32 M)
  have hbm5 := hcm.lt hM0
  generalize nl W32 M = nM at *
  go_wp2_with fail
  refine (takeFrom_any bm om nM mc vl (nl W32 lo') (dg W32 M) (dg W32 lo') _ hml hnlo hcm hsm hum hvl5 (u32_dg _ _) (fun hp b o c he => by have := hvlne hp b o c he; omega) (by rw [vM.out, vL.out]; have := q1.out; clear hWH; omega)).mono ?_
  rintro e w6 ⟨rfl, h6, hc6, hu6, hv6, hup6⟩
  have hvl6 : Rep w6 vl lo' := Nums.upd hvl5 hup6 (fun b o c he hp => by have := hvlne hp b o c he; omega)
  have hvh6 : Rep w6 vh hi' := Nums.upd hvh5 hup6 (fun b o c he hp => by have := hvhne hp b o c he; omega)
  have hsm6 := hsm.upd hbm5 hup6
  go_wp2_with fail
  refine (takeFrom_any bm om nM mc vh (nl W32 hi') h6 (dg W32 hi') _ hml hnhi hc6 hsm6 hu6 hvh6 (u32_dg _ _) (fun hp b o c he => by have := hvhne hp b o c he; omega) (by rw [hv6, vM.out, vL.out, vH.out]; have := q1.out; clear hWH; omega)).mono ?_
  rintro e w7 ⟨rfl, h7, hc7, hu7, hv7, hup7⟩
  have hvl7 : Rep w7 vl lo' := Nums.upd hvl6 hup7 (fun b o c he hp => by have := hvlne hp b o c he; omega)
  have hvh7 : Rep w7 vh hi' := Nums.upd hvh6 hup7 (fun b o c he hp => by have := hvhne hp b o c he; omega)
  have hbm6 := hc6.lt hM0
  have hsm7 := hsm6.upd hbm6 hup7
  have hB7 : Below w.heap.size w w7 := hB5.trans ((hup6.below (by omega) hB5.size).trans (hup7.below (by omega) (Nat.le_trans hB5.size hup6.size)))
  have hout7 := hout.below hB7 hglt
  have hs7 := hs.below hB7 hglt
  have hK : Hid (val W32 h7 nM = (K : Int)) := by show _ = _; rw [hv7, hv6, vM.out, vL.out, vH.out]; have := q1.out; omega
  have hbm7 := hc7.lt hM0
  have hgbm : g ≠ bm := by omega
  clear hv6 hv7 hc6 hu6 hcm hsm hum hsm6 hup6 hup7 hvl5 hvl6 hvh5 hvh6 hB5 hout5 hs5 hbm5 hbm6 vM q1 hout hs
  -- adding up
  have hT1 : Hid (lo' + K * W32 ^ H < W32 ^ N) := by show _ < _; have := q0.out; have := q2.out; omega
  have hT0 : Hid (lo' < W32 ^ N) := by show _ < _; have := hT1.out; omega
  have hloN : nl W32 lo' ≤ N := nl_le W32 _ _ (by decide) hT0.out
  have cN : Hid ((W32 : Int) ^ N = ((W32 ^ N : Nat) : Int)) := by show _ = _; simp
  go_wp2_with fail
  refine (addInto_any g 0 N N vl (nl W32 lo') (fun _ => 0) (dg W32 lo') _ hNL hloN hout7 hs7 (fun _ _ => ⟨Int.le_refl _, (by decide : (0 : Int) < (W32 : Int))⟩) hvl7 (u32_dg _ _) hvlg (by rw [val_zero N (fun _ _ => rfl), vL.out, cN.out]; have := hT0.out; omega)).mono ?_
  rintro e w8 ⟨rfl, h8, hc8, hu8, hv8, hup8⟩
  have hv8' : Hid (val W32 h8 N = (lo' : Int)) := by show _ = _; rw [hv8, val_zero N (fun _ _ => rfl), vL.out]; omega
  have hvh8 : Rep w8 vh hi' := Nums.upd hvh7 hup8 (fun b o c he hp => hvhg hp b o c he)
  have hc78 := hc7.upd hup8 (.inl (Ne.symm hgbm))
  have hsm8 := hsm7.upd hbm7 hup8
  have hg7 := hout7.lt (show 0 < N by omega)
  have hs8 := hs7.upd hg7 hup8
  have hMine : Mine .u64 (g + 1) w8 (.slice (some ⟨bm, om, none⟩) nM mc) nM h7 := ⟨_, _, rfl, hmc, hml, fun _ => ⟨_, _, rfl, hc78, hsm8, by omega⟩⟩
  have hUw8 : Upd w w8 g 0 N := (Upd.of_below hB7 hglt).trans hup8
  clear hv8 hvl7 hvh7 hup8 hc7 hc78 hsm7 hsm8 hs7 hout7 hvlne hvlg vL hT0 hB7
  have HA1 : Hid (∀ h2 : Nat → Int, val W32 (fun j => h8 (H + j)) (N - H) + (K : Int) < (W32 : Int) ^ (N - H) ∧ (val W32 h2 (N - H) = val W32 (fun j => h8 (H + j)) (N - H) + (K : Int) → val W32 (layEnd h8 h2 H) N = ((lo' + K * W32 ^ H : Nat) : Int))) := fun h2 => add_from h8 h2 N H lo' K _ j2 hu8 hv8'.out rfl hT1.out
  have hKnl : nl W32 K ≤ N - H := by
    refine nl_le W32 _ _ (by decide) ?_
    have h1 := (HA1.out (fun _ => 0)).1
    have h2 := (val_bounds W32 (fun j => h8 (H + j)) (N - H) (fun j hj => hu8 (H + j) (by omega))).1
    have e : ((W32 ^ (N - H) : Nat) : Int) = (W32 : Int) ^ (N - H) := by simp
    omega
  have vK : Hid (val W32 (dg W32 K) (nl W32 K) = (K : Int)) := val_nl W32 K (by decide)
  have hrow8 : Cells w8 .u64 g H (N - H) (fun j => h8 (H + j)) := by
    have := hc8.from H (N - H) (by omega); rw [Nat.zero_add] at this; exact this
  have hsrow8 : Soft w8 g H (N - H) := by
    have := hs8.from H (N - H) (by omega); rw [Nat.zero_add] at this; exact this
  have hurow8 : U32 (N - H) (fun j => h8 (H + j)) := fun j hj => hu8 (H + j) (by omega)
  have hlim8 : N - H ≤ LIM := by unfold LIM at *; omega
  have hg1 : g < g + 1 := by omega
  clear ha hb hA1 hB1 hva0 hvb0 nx0 ny0 nx1 ny1 nxs hx1p hyp hmid
  have hg8 := hc8.lt (show 0 < N by omega)
  go_wp2
  go_region_held3 (fun _ => True) (trivial) (first
    | (go_at_call 56; refine (cut_mine (g + 1) (.slice (some ⟨bm, om, none⟩) nM mc) nM h7 _ K (by exact hMine) hu7 hK.out).mono ?_; rintro e wc ⟨vk, rfl, hvk0, rfl⟩; have hvk : RepM (g + 1) w8 vk K := hvk0)
    | (go_at_call 61; refine (addInto_any g H (N - H) (N - H) vk (nl W32 K) (fun j => h8 (H + j)) (dg W32 K) _ hlim8 hKnl (by exact hrow8) (by exact hsrow8) hurow8 (by exact hvk.rep) (u32_dg _ _) (repM_ne hvk hg1) (by rw [vK.out]; exact (HA1.out (fun _ => 0)).1)).mono ?_; rintro e w9 ⟨rfl, h9, hc9, hu9, hv9, hup90⟩; have hup9 : Upd w8 w9 g H (N - H) := ⟨hup90.os, hup90.tape, hup90.output, hup90.size, hup90.block, hup90.cell, hup90.froz⟩))
  rw [vK.out] at hv9
  have hvN9 : Hid (val W32 (layEnd h8 h9 H) N = ((lo' + K * W32 ^ H : Nat) : Int)) := (HA1.out h9).2 hv9
  have hcN9 := cells_layEnd hc8 hc9 hup9
  have huN9 := u32_layEnd hu8 hu9
  have hs9 := hs8.upd hg8 hup9
  have hvh9 : Rep w9 vh hi' := Nums.upd hvh8 hup9 (fun b o c he hp => hvhg hp b o c he)
  have hUw9 : Upd w w9 g 0 N := hUw8.trans (hup9.mono (by omega) (by omega))
  clear hup9 hup90 hc9 hv9 hu9 hvk hvk0 HA1 vK hrow8 hsrow8 hurow8 hlim8 hv8' hc8 hu8 hs8 hvh8 hUw8 hMine hK hKnl hu7
  generalize layEnd h8 h9 H = h10 at *
  have HA2 : Hid (∀ h2 : Nat → Int, val W32 (fun j => h10 (2 * H + j)) (N - 2 * H) + (hi' : Int) < (W32 : Int) ^ (N - 2 * H) ∧ (val W32 h2 (N - 2 * H) = val W32 (fun j => h10 (2 * H + j)) (N - 2 * H) + (hi' : Int) → val W32 (layEnd h10 h2 (2 * H)) N = ((x * y : Nat) : Int))) := fun h2 => add_from h10 h2 N (2 * H) _ hi' _ j1 huN9 hvN9.out (by rw [Nat.two_mul]; exact q0.out) q2.out
  have hHnl : nl W32 hi' ≤ N - 2 * H := by
    refine nl_le W32 _ _ (by decide) ?_
    have h1 := (HA2.out (fun _ => 0)).1
    have h2 := (val_bounds W32 (fun j => h10 (2 * H + j)) (N - 2 * H) (fun j hj => huN9 (2 * H + j) (by omega))).1
    have e : ((W32 ^ (N - 2 * H) : Nat) : Int) = (W32 : Int) ^ (N - 2 * H) := by simp
    omega
  have hrow9 : Cells w9 .u64 g (2 * H) (N - 2 * H) (fun j => h10 (2 * H + j)) := by
    have := hcN9.from (2 * H) (N - 2 * H) (by omega); rw [Nat.zero_add] at this; exact this
  have hsrow9 : Soft w9 g (2 * H) (N - 2 * H) := by
    have := hs9.from (2 * H) (N - 2 * H) (by omega); rw [Nat.zero_add] at this; exact this
  have hurow9 : U32 (N - 2 * H) (fun j => h10 (2 * H + j)) := fun j hj => huN9 (2 * H + j) (by omega)
  have hlim9 : N - 2 * H ≤ LIM := by unfold LIM at *; omega
  have hg9 := hcN9.lt (show 0 < N by omega)
  go_wp2_with fail
  refine (addInto_any g (2 * H) (N - 2 * H) (N - 2 * H) vh (nl W32 hi') (fun j => h10 (2 * H + j)) (dg W32 hi') _ hlim9 hHnl hrow9 hsrow9 hurow9 hvh9 (u32_dg _ _) hvhg (by rw [vH.out]; exact (HA2.out (fun _ => 0)).1)).mono ?_
  rintro e w10 ⟨rfl, h11, hc11, hu11, hv11, hup11⟩
  rw [vH.out] at hv11
  have hvN := (HA2.out h11).2 hv11
  have hcN := cells_layEnd hcN9 hc11 hup11
  have huN := u32_layEnd huN9 hu11
  have hUw := hUw9.trans (hup11.mono (by omega) (by omega))
  generalize layEnd h10 h11 (2 * H) = h12 at *
  clear hup11 hc11 hv11 hu11 hcN9 huN9 hs9 hvh9 hUw9 HA2 hHnl hrow9 hsrow9 hurow9 hlim9
  go_wp2
  go_end0
  exact ⟨rfl, h12, hcN, huN, hvN, hUw⟩

theorem halves_any (g N ba oa la ca bb ob lb cb x y : Nat) (w : World) (hN : N = la + lb) (h40 : 40 ≤ lb) (hl : la ≤ 400000) (hlb2 : lb ≤ la) (h2 : la < 2 * lb) (hca : la ≤ ca) (hcb : lb ≤ cb)
    (hout : Cells w .u64 g 0 N (fun _ => 0)) (hs : Soft w g 0 N) (ha : Cells w .u64 ba oa la (dg W32 x)) (hb : Cells w .u64 bb ob lb (dg W32 y))
    (hnx : nl W32 x = la) (hny : nl W32 y = lb) (IH : ∀ p q, nl W32 p + nl W32 q < la + lb → ProdAt p q) :
    Calls Try.prog 55 #[.slice (some ⟨g, 0, none⟩) N N, .slice (some ⟨ba, oa, none⟩) la ca, .slice (some ⟨bb, ob, none⟩) lb cb] w fun e w' =>
      e = .returned (.tuple #[]) ∧ ∃ h, Cells w' .u64 g 0 N h ∧ U32 N h ∧ val W32 h N = ((x * y : Nat) : Int) ∧ Upd w w' g 0 N := by
  by_cases h : cb = (la + 1) / 2
  · obtain ⟨H, hH⟩ : ∃ H, H = (la + 1) / 2 := ⟨_, rfl⟩
    have e1 : cb = H := by omega
    have e2 : lb = H := by omega
    clear h
    subst e1
    subst e2
    exact halves_tight g N ba oa la ca bb ob x y lb w hN hH h40 hl hlb2 h2 hca hout hs ha hb hnx hny IH
  · exact halves_wide g N ba oa la ca bb ob lb cb x y _ w hN rfl h40 hl hlb2 h2 hca hcb h hout hs ha hb hnx hny IH

end Go.Proofs.Ytlegcekklknjhaa

/-
  What nat.product answers of any two numbers (Karatsuba's way where they are long).
-/
namespace Go.Proofs.Ytlegcekklknjhaa
open Go.RowKit

set_option maxRecDepth 20000 in
set_option maxHeartbeats 2000000 in
theorem product_wide (u v : Value) (x y : Nat) (w : World) (hu : Rep w u x) (hv : Rep w v y) (hle : nl W32 y ≤ nl W32 x) (h40 : 40 ≤ nl W32 y) (hlim : nl W32 x ≤ 400000)
    (IH : ∀ p q, nl W32 p + nl W32 q < nl W32 x + nl W32 y → ProdAt p q) :
    Calls Try.prog 43 #[u, v] w fun e w' => ∃ r, e = .returned r ∧ RepM w.heap.size w' r (x * y) ∧ Below w.heap.size w w' := by
  obtain ⟨i0, hi, hz0, hz1, hz2⟩ := info_parts info_u64
  have hv0 := hv
  obtain ⟨ao, c, rfl, hlc, hl, h4⟩ := hu
  obtain ⟨bo, d, rfl, hld, kl, k4⟩ := hv
  obtain ⟨b1, o1, rfl, hc⟩ := h4 (by omega)
  obtain ⟨b2, o2, rfl, kc⟩ := k4 (by omega)
  have hb1 := hc.lt (by omega)
  have hb2 := kc.lt (by omega)
  have hxl := lt_pow_nl W32 x (by decide)
  have hyl := lt_pow_nl W32 y (by decide)
  generalize hla : nl W32 x = la at *
  generalize hlb : nl W32 y = lb at *
  have HLA : Hid (nl W32 x = la) := hla
  have HLB : Hid (nl W32 y = lb) := hlb
  have HXL : Hid (x < W32 ^ la) := hxl
  have HYL : Hid (y < W32 ^ lb) := hyl
  have HIH : Hid (∀ p q, nl W32 p + nl W32 q < la + lb → ProdAt p q) := IH
  clear h4 k4 hla hlb hxl hyl IH
  have hnl : ¬ la < lb := by omega
  have hle2 : lb ≤ la := by omega
  have hne : ((lb : Int) == 0) = false := by simp; omega
  have h40' : ¬ (lb : Int) < 40 := by omega
  by_cases h2 : 2 * lb ≤ la
  · have h2' : 2 * (lb : Int) ≤ (la : Int) := by omega
    go_enter Try.func43, Try.ntmps43
    go_wp2_with (at_make; refine wpList_make_full _ rfl _ _ 29 rfl _ 59 i0 (.int .u64 0) 1 Try.underlying29 hi hz0 hz1 _ _ _ _ (la + lb) rfl rfl (by omega) (by omega) (by rw [hz2]; omega) (by unfold maxLen; omega) (Nat.le_refl _) ?_; intro w1 hown hgrow)
    have hbl := below_grown hgrow
    obtain ⟨hc1, hs1⟩ := mine_made (k := .u64) (w := w) hown (fun _ => 0) (fun i hi => made_zero .u64 (la + lb) i hi)
    clear hown hgrow
    refine (pieces_any _ _ _ _ _ _ _ _ _ _ x y _ rfl (by omega) hlim hle2 hlc hc1 hs1 (hc.below hbl hb1) (hv0.below hbl) (by omega) HXL.out HYL.out (by omega) (fun p hp => HIH.out p y (by have := HLB.out; omega))).mono ?_
    rintro e w2 ⟨rfl, h, hch, huh, hvh, hupd⟩
    have hMine : Mine .u64 w.heap.size w2 (.slice (some ⟨w.heap.size, 0, none⟩) (la + lb) (la + lb)) (la + lb) h := ⟨_, _, rfl, Nat.le_refl _, by unfold LIM; omega, fun _ => ⟨_, _, rfl, hch, hs1.upd (hc1.lt (by omega)) hupd, Nat.le_refl _⟩⟩
    have hbel : Below w.heap.size w w2 := hbl.trans (hupd.below (Nat.le_refl _) hbl.size)
    clear hc1 hs1
    go_wp2_with (go_at_call 56; refine (cut_mine _ _ _ _ _ (x * y) hMine huh hvh).mono ?_; rintro e w3 ⟨r, rfl, hr, rfl⟩)
    go_ret
    exact ⟨_, rfl, hr, hbel⟩
  · have h2' : ¬ 2 * (lb : Int) ≤ (la : Int) := by omega
    go_enter Try.func43, Try.ntmps43
    go_wp2_with (at_make; refine wpList_make_full _ rfl _ _ 29 rfl _ 59 i0 (.int .u64 0) 1 Try.underlying29 hi hz0 hz1 _ _ _ _ (la + lb) rfl rfl (by omega) (by omega) (by rw [hz2]; omega) (by unfold maxLen; omega) (Nat.le_refl _) ?_; intro w1 hown hgrow)
    have hbl := below_grown hgrow
    obtain ⟨hc1, hs1⟩ := mine_made (k := .u64) (w := w) hown (fun _ => 0) (fun i hi => made_zero .u64 (la + lb) i hi)
    clear hown hgrow
    refine (halves_any _ _ _ _ _ _ _ _ _ _ x y _ rfl h40 hlim hle2 (by omega) hlc hld hc1 hs1 (hc.below hbl hb1) (kc.below hbl hb2) HLA.out HLB.out HIH.out).mono ?_
    rintro e w2 ⟨rfl, h, hch, huh, hvh, hupd⟩
    have hMine : Mine .u64 w.heap.size w2 (.slice (some ⟨w.heap.size, 0, none⟩) (la + lb) (la + lb)) (la + lb) h := ⟨_, _, rfl, Nat.le_refl _, by unfold LIM; omega, fun _ => ⟨_, _, rfl, hch, hs1.upd (hc1.lt (by omega)) hupd, Nat.le_refl _⟩⟩
    have hbel : Below w.heap.size w w2 := hbl.trans (hupd.below (Nat.le_refl _) hbl.size)
    clear hc1 hs1
    go_wp2_with (go_at_call 56; refine (cut_mine _ _ _ _ _ (x * y) hMine huh hvh).mono ?_; rintro e w3 ⟨r, rfl, hr, rfl⟩)
    go_ret
    exact ⟨_, rfl, hr, hbel⟩

set_option maxRecDepth 20000 in
set_option maxHeartbeats 2000000 in
theorem product_swapped (u v : Value) (x y : Nat) (w : World) (hu : Rep w u x) (hv : Rep w v y) (hle : nl W32 y < nl W32 x) (h40 : 40 ≤ nl W32 y) (hlim : nl W32 x ≤ 400000)
    (IH : ∀ p q, nl W32 p + nl W32 q < nl W32 x + nl W32 y → ProdAt p q) :
    Calls Try.prog 43 #[v, u] w fun e w' => ∃ r, e = .returned r ∧ RepM w.heap.size w' r (x * y) ∧ Below w.heap.size w w' := by
  obtain ⟨i0, hi, hz0, hz1, hz2⟩ := info_parts info_u64
  have hv0 := hv
  obtain ⟨ao, c, rfl, hlc, hl, h4⟩ := hu
  obtain ⟨bo, d, rfl, hld, kl, k4⟩ := hv
  obtain ⟨b1, o1, rfl, hc⟩ := h4 (by omega)
  obtain ⟨b2, o2, rfl, kc⟩ := k4 (by omega)
  have hb1 := hc.lt (by omega)
  have hb2 := kc.lt (by omega)
  have hxl := lt_pow_nl W32 x (by decide)
  have hyl := lt_pow_nl W32 y (by decide)
  generalize hla : nl W32 x = la at *
  generalize hlb : nl W32 y = lb at *
  have HLA : Hid (nl W32 x = la) := hla
  have HLB : Hid (nl W32 y = lb) := hlb
  have HXL : Hid (x < W32 ^ la) := hxl
  have HYL : Hid (y < W32 ^ lb) := hyl
  have HIH : Hid (∀ p q, nl W32 p + nl W32 q < la + lb → ProdAt p q) := IH
  clear h4 k4 hla hlb hxl hyl IH
  have hnl : lb < la := by omega
  have hle2 : lb ≤ la := by omega
  have hne : ((lb : Int) == 0) = false := by simp; omega
  have h40' : ¬ (lb : Int) < 40 := by omega
  by_cases h2 : 2 * lb ≤ la
  · have h2' : 2 * (lb : Int) ≤ (la : Int) := by omega
    go_enter Try.func43, Try.ntmps43
    go_wp2_with (at_make; refine wpList_make_full _ rfl _ _ 29 rfl _ 59 i0 (.int .u64 0) 1 Try.underlying29 hi hz0 hz1 _ _ _ _ (la + lb) rfl rfl (by omega) (by omega) (by rw [hz2]; omega) (by unfold maxLen; omega) (Nat.le_refl _) ?_; intro w1 hown hgrow)
    have hbl := below_grown hgrow
    obtain ⟨hc1, hs1⟩ := mine_made (k := .u64) (w := w) hown (fun _ => 0) (fun i hi => made_zero .u64 (la + lb) i hi)
    clear hown hgrow
    refine (pieces_any _ _ _ _ _ _ _ _ _ _ x y _ rfl (by omega) hlim hle2 hlc hc1 hs1 (hc.below hbl hb1) (hv0.below hbl) (by omega) HXL.out HYL.out (by omega) (fun p hp => HIH.out p y (by have := HLB.out; omega))).mono ?_
    rintro e w2 ⟨rfl, h, hch, huh, hvh, hupd⟩
    have hMine : Mine .u64 w.heap.size w2 (.slice (some ⟨w.heap.size, 0, none⟩) (la + lb) (la + lb)) (la + lb) h := ⟨_, _, rfl, Nat.le_refl _, by unfold LIM; omega, fun _ => ⟨_, _, rfl, hch, hs1.upd (hc1.lt (by omega)) hupd, Nat.le_refl _⟩⟩
    have hbel : Below w.heap.size w w2 := hbl.trans (hupd.below (Nat.le_refl _) hbl.size)
    clear hc1 hs1
    go_wp2_with (go_at_call 56; refine (cut_mine _ _ _ _ _ (x * y) hMine huh hvh).mono ?_; rintro e w3 ⟨r, rfl, hr, rfl⟩)
    go_ret
    exact ⟨_, rfl, hr, hbel⟩
  · have h2' : ¬ 2 * (lb : Int) ≤ (la : Int) := by omega
    go_enter Try.func43, Try.ntmps43
    go_wp2_with (at_make; refine wpList_make_full _ rfl _ _ 29 rfl _ 59 i0 (.int .u64 0) 1 Try.underlying29 hi hz0 hz1 _ _ _ _ (la + lb) rfl rfl (by omega) (by omega) (by rw [hz2]; omega) (by unfold maxLen; omega) (Nat.le_refl _) ?_; intro w1 hown hgrow)
    have hbl := below_grown hgrow
    obtain ⟨hc1, hs1⟩ := mine_made (k := .u64) (w := w) hown (fun _ => 0) (fun i hi => made_zero .u64 (la + lb) i hi)
    clear hown hgrow
    refine (halves_any _ _ _ _ _ _ _ _ _ _ x y _ rfl h40 hlim hle2 (by omega) hlc hld hc1 hs1 (hc.below hbl hb1) (kc.below hbl hb2) HLA.out HLB.out HIH.out).mono ?_
    rintro e w2 ⟨rfl, h, hch, huh, hvh, hupd⟩
    have hMine : Mine .u64 w.heap.size w2 (.slice (some ⟨w.heap.size, 0, none⟩) (la + lb) (la + lb)) (la + lb) h := ⟨_, _, rfl, Nat.le_refl _, by unfold LIM; omega, fun _ => ⟨_, _, rfl, hch, hs1.upd (hc1.lt (by omega)) hupd, Nat.le_refl _⟩⟩
    have hbel : Below w.heap.size w w2 := hbl.trans (hupd.below (Nat.le_refl _) hbl.size)
    clear hc1 hs1
    go_wp2_with (go_at_call 56; refine (cut_mine _ _ _ _ _ (x * y) hMine huh hvh).mono ?_; rintro e w3 ⟨r, rfl, hr, rfl⟩)
    go_ret
    exact ⟨_, rfl, hr, hbel⟩

theorem product_upto : ∀ s x y, nl W32 x + nl W32 y = s → s ≤ 400000 → ProdAt x y := by
  intro s
  induction s using Nat.strongRecOn with
  | ind s ih =>
    intro x y hs hl u v w hu hv
    have IH : ∀ p q, nl W32 p + nl W32 q < nl W32 x + nl W32 y → ProdAt p q := fun p q h => ih _ (by omega) p q rfl (by omega)
    by_cases h40 : nl W32 x < 40 ∨ nl W32 y < 40
    · exact product_any u v x y w hu hv h40 (by omega) (by omega)
    · by_cases h : nl W32 x < nl W32 y
      · rw [Nat.mul_comm]
        exact product_swapped v u y x w hv hu h (by omega) (by omega) (fun p q hpq => IH p q (by omega))
      · exact product_wide u v x y w hu hv (by omega) (by omega) (by omega) IH

/-- nat.product of any two numbers. -/
theorem product_all (x y : Nat) (h : nl W32 x + nl W32 y ≤ 400000) : ProdAt x y := product_upto _ x y rfl h

end Go.Proofs.Ytlegcekklknjhaa

/-
  What whole.less, Add, Sub and Mul answer.
-/
namespace Go.Proofs.Ytlegcekklknjhaa
open Go.RowKit

set_option maxRecDepth 20000 in
set_option maxHeartbeats 400000 in
theorem less_any (u v : Value) (n m : Nat) (f g : Nat → Int) (w : World) (hu : Nums .u64 w u n f) (hv : Nums .u64 w v m g) (hf : U64 n f) (hg : U64 m g) (h : num g m ≤ num f n) :
    Calls Try.prog 39 #[u, v] w fun e w' => ∃ r, e = .returned r ∧ RepM w.heap.size w' r (num f n - num g m) ∧ Below w.heap.size w w' := by
  go_enter Try.func39, Try.ntmps39
  go_wp2_with fail
  refine (sub_ok _ _ _ _ _ _ _ hu hv hf hg h).mono ?_
  rintro e w1 ⟨r, rfl, hr, hb⟩
  go_wp2
  go_ret
  exact ⟨_, rfl, hr, hb⟩

/-- The two cells of a whole number that came in, laid in a variable. -/
theorem box_a (w : World) (t t' t'' : TypeId) (p q p' q' x y : Value) :
    (((w.alloc (.cells #[p, q] t)).alloc (.cells #[p', q'] t')).alloc (.cells #[x, y] t'')).cell? ⟨w.heap.size, 0, none⟩ = some p ∧
    (((w.alloc (.cells #[p, q] t)).alloc (.cells #[p', q'] t')).alloc (.cells #[x, y] t'')).cell? ⟨w.heap.size, 1, none⟩ = some q ∧
    (((w.alloc (.cells #[p, q] t)).alloc (.cells #[p', q'] t')).alloc (.cells #[x, y] t'')).cell? ⟨w.heap.size + 1, 0, none⟩ = some p' ∧
    (((w.alloc (.cells #[p, q] t)).alloc (.cells #[p', q'] t')).alloc (.cells #[x, y] t'')).cell? ⟨w.heap.size + 1, 1, none⟩ = some q' := by
  have h0 := resW w t p q
  have h1 := res1 w (.cells #[p, q] t) t' p' q'
  have b1 : Below (w.heap.size + 1) (w.alloc (.cells #[p, q] t)) (((w.alloc (.cells #[p, q] t)).alloc (.cells #[p', q'] t')).alloc (.cells #[x, y] t'')) :=
    ((Below.refl _ _).alloc (by simp) _).alloc (by simp) _
  have b2 : Below (w.heap.size + 1 + 1) ((w.alloc (.cells #[p, q] t)).alloc (.cells #[p', q'] t')) (((w.alloc (.cells #[p, q] t)).alloc (.cells #[p', q'] t')).alloc (.cells #[x, y] t'')) :=
    (Below.refl _ _).alloc (by simp) _
  have k0 := keep2 b1 (by simp) ⟨h0.1, h0.2.1⟩
  have k1 := keep2 b2 (by simp) ⟨h1.1, h1.2.1⟩
  exact ⟨k0.1, k0.2, k1.1, k1.2⟩

set_option maxRecDepth 20000 in
set_option maxHeartbeats 2000000 in
theorem wadd_same (p : Bool) (ao : Option Addr) (n c : Nat) (f : Nat → Int) (bo : Option Addr) (m d : Nat) (g : Nat → Int) (w : World)
    (hu : Nums .u64 w (.slice ao n c) n f) (hf : U64 n f) (hv : Nums .u64 w (.slice bo m d) m g) (hg : U64 m g) (hn : n ≤ 1000000) (hm : m ≤ 1000000) :
    Calls Try.prog 25 #[.agg #[.bool p, .slice ao n c], .agg #[.bool p, .slice bo m d]] w fun e w' => ∃ r, e = .returned r ∧ RepI w' r (zof p (num f n + num g m)) ∧ Below w.heap.size w w' := by
  have hA : ∀ o o' o'', Below w.heap.size w (((w.alloc o).alloc o').alloc o'') := fun o o' o'' => (((Below.refl _ _).alloc (Nat.le_refl _) _).alloc (by simp) _).alloc (by simp; omega) _
  have ne1 : ¬ w.heap.size = w.heap.size + 1 + 1 := by omega
  have ne2 : ¬ w.heap.size + 1 + 1 = w.heap.size := by omega
  obtain ⟨c1, c2, c3, c4⟩ := box_a w 31 31 31 (.bool p) (.slice ao n c) (.bool p) (.slice bo m d) (.bool false) (.slice none 0 0)
  go_enter Try.func25, Try.ntmps25
  go_wp2
  go_region_held3 (fun w' => w'.cell? ⟨w.heap.size, 0, none⟩ = some (.bool p) ∧ w'.cell? ⟨w.heap.size, 1, none⟩ = some (.slice ao n c) ∧ w'.cell? ⟨w.heap.size + 1, 0, none⟩ = some (.bool p) ∧ w'.cell? ⟨w.heap.size + 1, 1, none⟩ = some (.slice bo m d)) (first | exact keep4 (by assumption) (by simp) (by assumption) | go_keep) (first
    | (go_at_call 37; refine (add_any _ _ _ _ _ _ _ (hu.below (hA _ _ _).drew) (hv.below (hA _ _ _).drew) hf hg hn hm).mono ?_; rintro e w1 ⟨s, rfl, hs, hb1⟩; have hk1 := keepW hb1 (by simp) (res2 w _ _ _ _ _))
    | (go_at_call 31; refine (signed_any _ _ _ _ hs.nums).mono ?_; rintro e w2 ⟨r, rfl, hr, hb2⟩; obtain ⟨b2, ao2, n2, c2, rfl⟩ := hr.open; obtain ⟨q1, q2, q3, q4⟩ := keepW hb2 (Nat.le_refl _) hk1))
  go_wp2
  (try simp only [Exit.inBlock, Exit.then])
  refine bodyPost_ret (v := .agg #[.bool b2, .slice ao2 n2 c2]) (by simp [results, go_sem, q1, q2]) rfl ?_
  have B1 := (hA _ _ _).drew.trans (hb1.mono (by simp; omega))
  have B2 := B1.trans (hb2.mono B1.size)
  exact ⟨_, rfl, hr.store2 q1 q2 _ _, below_store2 B2 (by omega) _ _⟩

set_option maxRecDepth 20000 in
set_option maxHeartbeats 2000000 in
theorem wadd_lt (p : Bool) (ao : Option Addr) (n c : Nat) (f : Nat → Int) (bo : Option Addr) (m d : Nat) (g : Nat → Int) (w : World)
    (hu : Nums .u64 w (.slice ao n c) n f) (hf : U64 n f) (hv : Nums .u64 w (.slice bo m d) m g) (hg : U64 m g) (hc0 : num f n < num g m) :
    Calls Try.prog 25 #[.agg #[.bool p, .slice ao n c], .agg #[.bool (!p), .slice bo m d]] w fun e w' => ∃ r, e = .returned r ∧ RepI w' r (zof (!p) (num g m - num f n)) ∧ Below w.heap.size w w' := by
  have hA : ∀ o o' o'', Below w.heap.size w (((w.alloc o).alloc o').alloc o'') := fun o o' o'' => (((Below.refl _ _).alloc (Nat.le_refl _) _).alloc (by simp) _).alloc (by simp; omega) _
  have ne1 : ¬ w.heap.size = w.heap.size + 1 + 1 := by omega
  have ne2 : ¬ w.heap.size + 1 + 1 = w.heap.size := by omega
  obtain ⟨c1, c2, c3, c4⟩ := box_a w 31 31 31 (.bool p) (.slice ao n c) (.bool (!p)) (.slice bo m d) (.bool false) (.slice none 0 0)
  have hpq : (p == !p) = false := by cases p <;> rfl
  have hc : cmpI (num f n) (num g m) < 0 := by rw [cmpI_lt (by omega)]; omega
  generalize hq : (!p) = q at *
  go_enter Try.func25, Try.ntmps25
  go_wp2_with fail
  refine (cmp_any _ _ _ _ _ _ _ (hu.below (hA _ _ _)) (hv.below (hA _ _ _)) hf hg).mono ?_
  rintro e w0 ⟨rfl, hb0⟩
  have hk0 := keepW hb0 (by simp) (res2 w _ _ _ _ _)
  obtain ⟨d1, d2, d3, d4⟩ := keep4 hb0 (by simp) ⟨c1, c2, c3, c4⟩
  have B0 : Below w.heap.size w w0 := (hA _ _ _).trans (hb0.mono (by simp; omega))
  clear c1 c2 c3 c4 hq
  generalize cmpI (num f n) (num g m) = C at *
  go_wp2
  go_region_held3 (fun w' => w'.cell? ⟨w.heap.size, 0, none⟩ = some (.bool p) ∧ w'.cell? ⟨w.heap.size, 1, none⟩ = some (.slice ao n c) ∧ w'.cell? ⟨w.heap.size + 1, 0, none⟩ = some (.bool q) ∧ w'.cell? ⟨w.heap.size + 1, 1, none⟩ = some (.slice bo m d)) (first | exact keep4 (by assumption) (by simp) (by assumption) | go_keep) (first
    | (go_at_call 39; refine (less_any _ _ _ _ _ _ _ (hv.below B0.drew) (hu.below B0.drew) hg hf (by omega)).mono ?_; rintro e w1 ⟨s, rfl, hs, hb1⟩; have hk1 := keepW hb1 (Nat.le_refl _) hk0)
    | (go_at_call 31; refine (signed_any _ _ _ _ hs.nums).mono ?_; rintro e w2 ⟨r, rfl, hr, hb2⟩; obtain ⟨b2, ao2, n2, c2, rfl⟩ := hr.open; obtain ⟨q1, q2, q3, q4⟩ := keepW hb2 (Nat.le_refl _) hk1))
  go_wp2
  (try simp only [Exit.inBlock, Exit.then])
  refine bodyPost_ret (v := .agg #[.bool b2, .slice ao2 n2 c2]) (by simp [results, go_sem, q1, q2]) rfl ?_
  have B1 := B0.drew.trans (hb1.mono B0.size)
  have B2 := B1.trans (hb2.mono B1.size)
  exact ⟨_, rfl, hr.store2 q1 q2 _ _, below_store2 B2 (by omega) _ _⟩

set_option maxRecDepth 20000 in
set_option maxHeartbeats 2000000 in
theorem wadd_ge (p : Bool) (ao : Option Addr) (n c : Nat) (f : Nat → Int) (bo : Option Addr) (m d : Nat) (g : Nat → Int) (w : World)
    (hu : Nums .u64 w (.slice ao n c) n f) (hf : U64 n f) (hv : Nums .u64 w (.slice bo m d) m g) (hg : U64 m g) (hc0 : num g m ≤ num f n) :
    Calls Try.prog 25 #[.agg #[.bool p, .slice ao n c], .agg #[.bool (!p), .slice bo m d]] w fun e w' => ∃ r, e = .returned r ∧ RepI w' r (zof p (num f n - num g m)) ∧ Below w.heap.size w w' := by
  have hA : ∀ o o' o'', Below w.heap.size w (((w.alloc o).alloc o').alloc o'') := fun o o' o'' => (((Below.refl _ _).alloc (Nat.le_refl _) _).alloc (by simp) _).alloc (by simp; omega) _
  have ne1 : ¬ w.heap.size = w.heap.size + 1 + 1 := by omega
  have ne2 : ¬ w.heap.size + 1 + 1 = w.heap.size := by omega
  obtain ⟨c1, c2, c3, c4⟩ := box_a w 31 31 31 (.bool p) (.slice ao n c) (.bool (!p)) (.slice bo m d) (.bool false) (.slice none 0 0)
  have hpq : (p == !p) = false := by cases p <;> rfl
  have hc : ¬ cmpI (num f n) (num g m) < 0 := by unfold cmpI; rw [if_neg (by omega)]; split <;> omega
  generalize hq : (!p) = q at *
  go_enter Try.func25, Try.ntmps25
  go_wp2_with fail
  refine (cmp_any _ _ _ _ _ _ _ (hu.below (hA _ _ _)) (hv.below (hA _ _ _)) hf hg).mono ?_
  rintro e w0 ⟨rfl, hb0⟩
  have hk0 := keepW hb0 (by simp) (res2 w _ _ _ _ _)
  obtain ⟨d1, d2, d3, d4⟩ := keep4 hb0 (by simp) ⟨c1, c2, c3, c4⟩
  have B0 : Below w.heap.size w w0 := (hA _ _ _).trans (hb0.mono (by simp; omega))
  clear c1 c2 c3 c4 hq
  generalize cmpI (num f n) (num g m) = C at *
  go_wp2
  go_region_held3 (fun w' => w'.cell? ⟨w.heap.size, 0, none⟩ = some (.bool p) ∧ w'.cell? ⟨w.heap.size, 1, none⟩ = some (.slice ao n c) ∧ w'.cell? ⟨w.heap.size + 1, 0, none⟩ = some (.bool q) ∧ w'.cell? ⟨w.heap.size + 1, 1, none⟩ = some (.slice bo m d)) (first | exact keep4 (by assumption) (by simp) (by assumption) | go_keep) (first
    | (go_at_call 39; refine (less_any _ _ _ _ _ _ _ (hu.below B0.drew) (hv.below B0.drew) hf hg (by omega)).mono ?_; rintro e w1 ⟨s, rfl, hs, hb1⟩; have hk1 := keepW hb1 (Nat.le_refl _) hk0)
    | (go_at_call 31; refine (signed_any _ _ _ _ hs.nums).mono ?_; rintro e w2 ⟨r, rfl, hr, hb2⟩; obtain ⟨b2, ao2, n2, c2, rfl⟩ := hr.open; obtain ⟨q1, q2, q3, q4⟩ := keepW hb2 (Nat.le_refl _) hk1))
  go_wp2
  (try simp only [Exit.inBlock, Exit.then])
  refine bodyPost_ret (v := .agg #[.bool b2, .slice ao2 n2 c2]) (by simp [results, go_sem, q1, q2]) rfl ?_
  have B1 := B0.drew.trans (hb1.mono B0.size)
  have B2 := B1.trans (hb2.mono B1.size)
  exact ⟨_, rfl, hr.store2 q1 q2 _ _, below_store2 B2 (by omega) _ _⟩

theorem zof_add (p : Bool) (x y : Nat) : zof p (x + y) = zof p x + zof p y := by cases p <;> simp [zof] <;> omega
theorem zof_less (p : Bool) (x y : Nat) (h : y ≤ x) : zof p (x - y) = zof p x + zof (!p) y := by cases p <;> simp [zof] <;> omega

theorem wadd_any (u v : Value) (x y : Int) (L M : Nat) (w : World) (hu : IntAt w u x L) (hv : IntAt w v y M) (hL : L ≤ 1000000) (hM : M ≤ 1000000) :
    Calls Try.prog 25 #[u, v] w fun e w' => ∃ r, e = .returned r ∧ RepI w' r (x + y) ∧ Below w.heap.size w w' := by
  obtain ⟨p, ao, n, c, f, rfl, hu, hf, rfl, hn⟩ := hu
  obtain ⟨q, bo, m, d, g, rfl, hv, hg, rfl, hm⟩ := hv
  by_cases hpq : p = q
  · subst hpq
    rw [← zof_add]
    exact wadd_same p ao n c f bo m d g w hu hf hv hg (by omega) (by omega)
  · obtain rfl : q = !p := by cases p <;> cases q <;> simp_all
    by_cases hlt : num f n < num g m
    · rw [Int.add_comm, ← Bool.not_not p, Bool.not_not (!p), ← zof_less _ _ _ (by omega), Bool.not_not p]
      exact wadd_lt p ao n c f bo m d g w hu hf hv hg hlt
    · rw [← zof_less _ _ _ (by omega)]
      exact wadd_ge p ao n c f bo m d g w hu hf hv hg (by omega)

set_option maxRecDepth 20000 in
set_option maxHeartbeats 400000 in
theorem mul_wide (u v : Value) (n m : Nat) (f g : Nat → Int) (w : World) (hu : Nums .u64 w u n f) (hv : Nums .u64 w v m g) (hf : U64 n f) (hg : U64 m g) (hnm : n + m ≤ 400000) :
    Calls Try.prog 30 #[u, v] w fun e w' => ∃ r, e = .returned r ∧ RepM w.heap.size w' r (num f n * num g m) ∧ Below w.heap.size w w' := by
  have hx := nl_le W32 (num f n) n (by decide) (num_lt f n)
  have hy := nl_le W32 (num g m) m (by decide) (num_lt g m)
  go_enter Try.func30, Try.ntmps30
  go_wp2_with fail
  refine (plain_any _ _ _ _ hu hf).mono ?_
  rintro e w1 ⟨r1, rfl, hr1, hb1⟩
  go_wp2_with fail
  refine (plain_any _ _ _ _ (hv.below hb1) hg).mono ?_
  rintro e w2 ⟨r2, rfl, hr2, hb2⟩
  go_wp2_with fail
  refine (product_all _ _ (by omega) _ _ _ (Nums.below hr1 hb2) hr2).mono ?_
  rintro e w3 ⟨r, rfl, hr, hb3⟩
  go_wp2
  go_ret
  have := hb1.size
  have := hb2.size
  exact ⟨_, rfl, hr.le (by omega), hb1.trans ((hb2.mono (by omega)).trans (hb3.mono (by omega)))⟩

theorem zof_mul (p q : Bool) (x y : Nat) : zof (!(p == q)) (x * y) = zof p x * zof q y := by
  cases p <;> cases q <;> simp [zof, Int.mul_neg, Int.neg_mul]

end Go.Proofs.Ytlegcekklknjhaa

/-
  Newton's way to a root, plain: no program in sight.
-/
namespace Go.Proofs.Ytlegcekklknjhaa

theorem sq_le {a b : Int} (h0 : 0 ≤ a) (h : a ≤ b) : a * a ≤ b * b := Int.mul_le_mul h h h0 (by omega)

/-- One step, of half the old root's greatness A and of a number M that lies near. -/
theorem newton (M A P q : Int) (hP : 0 < P) (hA : P * P ≤ A) (hq0 : 0 ≤ q) (hq1 : 4 * A * q ≤ M) (hq2 : M < 4 * A * (q + 1)) (hl : 4 * ((A - P) * (A - P)) < M) (hu : M < 4 * ((A + P) * (A + P))) :
    (A + q - 1) * (A + q - 1) < M ∧ M < (A + q + 1) * (A + q + 1) := by
  have hA0 : 0 < A := Int.lt_of_lt_of_le (Int.mul_pos hP hP) hA
  constructor
  · by_cases hc : (A + q - 1) * (A + q - 1) < M
    · exact hc
    · exfalso
      have hc' : M ≤ (A + q - 1) * (A + q - 1) := by omega
      by_cases h1 : A + q - 1 ≤ 2 * A - 2 * P
      · have h2 := sq_le (show 0 ≤ A + q - 1 by omega) h1
        have e : (2 * A - 2 * P) * (2 * A - 2 * P) = 4 * ((A - P) * (A - P)) := by
          rw [show 2 * A - 2 * P = 2 * (A - P) by omega, Int.mul_assoc, Int.mul_left_comm (A - P), ← Int.mul_assoc]
          generalize (A - P) * (A - P) = t; omega
        omega
      · by_cases h2 : 2 * A + 2 * P ≤ A + q - 1
        · have h3 : A * (A + 2 * P + 1) ≤ A * q := Int.mul_le_mul_of_nonneg_left (by omega) (by omega)
          have e1 : (A + P) * (A + P) = A * A + 2 * (A * P) + P * P := by
            rw [Int.add_mul, Int.mul_add, Int.mul_add, Int.mul_comm P A]; omega
          have e2 : A * (A + 2 * P + 1) = A * A + 2 * (A * P) + A := by
            rw [Int.mul_add, Int.mul_add, Int.mul_one, Int.mul_left_comm]
          have e3 : 4 * A * q = 4 * (A * q) := Int.mul_assoc _ _ _
          omega
        · -- |x - 2 A| < 2 P
          have ht : -(2 * P) < A + q - 1 - 2 * A ∧ A + q - 1 - 2 * A < 2 * P := by omega
          generalize hz : A + q - 1 - 2 * A = z at *
          have hx : A + q - 1 = z + 2 * A := by omega
          have hqz : q = z + A + 1 := by omega
          rw [hx] at hc'
          have e1 : (z + 2 * A) * (z + 2 * A) = z * z + 4 * (A * z) + 4 * (A * A) := by
            rw [Int.add_mul, Int.mul_add, Int.mul_add, Int.mul_left_comm z 2 A, Int.mul_comm z A, Int.mul_assoc 2 A z, Int.mul_assoc 2 A (2 * A), Int.mul_left_comm A 2 A]; omega
          have e2 : 4 * A * q = 4 * (A * z) + 4 * (A * A) + 4 * A := by
            rw [hqz, Int.mul_assoc, show A * (z + A + 1) = A * z + A * A + A by rw [Int.mul_add, Int.mul_add, Int.mul_one]]; omega
          have h4 : 4 * A ≤ z * z := by omega
          have h5 : z * z < 4 * (P * P) := by
            have hzn : z * z = z.natAbs * z.natAbs := (Int.natAbs_mul_self' z).symm
            have h6 := sq_le (a := (z.natAbs : Int)) (b := 2 * P - 1) (by omega) (by omega)
            have e3 : (2 * P - 1) * (2 * P - 1) = 4 * (P * P) - 4 * P + 1 := by
              rw [Int.sub_mul, Int.mul_sub, Int.mul_sub, Int.mul_assoc, Int.mul_left_comm P 2 P]; omega
            omega
          omega
  · have e : (A + q + 1) * (A + q + 1) = (A - (q + 1)) * (A - (q + 1)) + 4 * A * (q + 1) := by
      generalize hz : q + 1 = z
      rw [show A + q + 1 = A + z by omega, Int.add_mul, Int.mul_add, Int.mul_add, Int.sub_mul, Int.mul_sub, Int.mul_sub, Int.mul_comm z A, Int.mul_assoc 4 A z]; omega
    have h1 : 0 ≤ (A - (q + 1)) * (A - (q + 1)) := by
      rw [← Int.natAbs_mul_self' (A - (q + 1))]
      exact Int.mul_nonneg (by omega) (by omega)
    omega

/-- One step of the root of n's highest bits: from e to d of c bits, a the root so far. -/
theorem newton_step (n c d e a : Nat) (hn : 4 ^ c ≤ n) (hed : e < d) (hd : d ≤ 2 * e + 1) (hdc : d ≤ c) (ha0 : 0 < a)
    (hl : (a - 1) * (a - 1) < n / 4 ^ (c - e)) (hu : n / 4 ^ (c - e) < (a + 1) * (a + 1)) :
    0 < a * 2 ^ (d - e - 1) + n / 2 ^ (2 * c - e - d + 1) / a ∧
    (a * 2 ^ (d - e - 1) + n / 2 ^ (2 * c - e - d + 1) / a - 1) * (a * 2 ^ (d - e - 1) + n / 2 ^ (2 * c - e - d + 1) / a - 1) < n / 4 ^ (c - d) ∧
    n / 4 ^ (c - d) < (a * 2 ^ (d - e - 1) + n / 2 ^ (2 * c - e - d + 1) / a + 1) * (a * 2 ^ (d - e - 1) + n / 2 ^ (2 * c - e - d + 1) / a + 1) := by
  have hP0 : 0 < 2 ^ (d - e - 1) := Nat.two_pow_pos _
  have e4 : ∀ k, (4 : Nat) ^ k = 2 ^ (2 * k) := fun k => by rw [Nat.pow_mul]
  -- the numbers at hand
  have q1 : n / 4 ^ (c - e) = n / 4 ^ (c - d) / (4 * (2 ^ (d - e - 1) * 2 ^ (d - e - 1))) := by
    rw [Nat.div_div_eq_div_mul]
    congr 1
    rw [e4, e4, ← Nat.pow_add, show (4 : Nat) = 2 ^ 2 from rfl, ← Nat.pow_add, ← Nat.pow_add]
    congr 1; omega
  have q2 : n / 2 ^ (2 * c - e - d + 1) / a = n / 4 ^ (c - d) / (4 * (a * 2 ^ (d - e - 1))) := by
    rw [Nat.div_div_eq_div_mul, Nat.div_div_eq_div_mul]
    congr 1
    rw [e4, Nat.mul_comm a, ← Nat.mul_assoc, ← Nat.mul_assoc, show (4 : Nat) = 2 ^ 2 from rfl, ← Nat.pow_add, ← Nat.pow_add]
    congr 2; omega
  have hbig : 4 ^ e ≤ n / 4 ^ (c - e) := by
    refine (Nat.le_div_iff_mul_le (Nat.pow_pos (by omega))).2 ?_
    rw [← Nat.pow_add, show e + (c - e) = c by omega]; exact hn
  have haP : 2 ^ (d - e - 1) ≤ a := by
    have h1 : 2 ^ (d - e - 1) ≤ 2 ^ e := Nat.pow_le_pow_right (by omega) (by omega)
    by_cases h2 : 2 ^ e ≤ a
    · omega
    · exfalso
      have h3 : (a + 1) * (a + 1) ≤ 2 ^ e * 2 ^ e := Nat.mul_le_mul (by omega) (by omega)
      have h4 : 2 ^ e * 2 ^ e = 4 ^ e := by rw [← Nat.mul_pow]
      omega
  rw [q2]
  rw [q1] at hl hu
  generalize n / 4 ^ (c - d) = M at *
  generalize 2 ^ (d - e - 1) = P at *
  have hAP : 0 < a * P := Nat.mul_pos ha0 hP0
  have hPP : P * P ≤ a * P := Nat.mul_le_mul_right _ haP
  have hPP0 : 0 < P * P := Nat.mul_pos hP0 hP0
  have r1 := Nat.div_add_mod M (4 * (a * P))
  have r2 := Nat.mod_lt M (show 4 * (a * P) > 0 by omega)
  generalize M / (4 * (a * P)) = q at *
  generalize M % (4 * (a * P)) = r at *
  have s1 := Nat.div_add_mod M (4 * (P * P))
  have s2 := Nat.mod_lt M (show 4 * (P * P) > 0 by omega)
  generalize M / (4 * (P * P)) = m at *
  generalize M % (4 * (P * P)) = t at *
  -- what the invariant says of M itself
  have l1 : (4 * (P * P)) * ((a - 1) * (a - 1) + 1) ≤ 4 * (P * P) * m := Nat.mul_le_mul_left _ hl
  have u1 : 4 * (P * P) * (m + 1) ≤ 4 * (P * P) * ((a + 1) * (a + 1)) := Nat.mul_le_mul_left _ hu
  have l2 : 4 * ((((a * P : Nat) : Int) - (P : Int)) * (((a * P : Nat) : Int) - (P : Int))) < (M : Int) := by
    obtain ⟨b, rfl⟩ : ∃ b, a = b + 1 := ⟨a - 1, by omega⟩
    rw [Nat.add_sub_cancel] at l1
    have e1 : (((b + 1) * P : Nat) : Int) - (P : Int) = ((b * P : Nat) : Int) := by rw [Nat.add_mul, Nat.one_mul]; omega
    rw [e1, ← Int.natCast_mul]
    have e2 : b * P * (b * P) = P * P * (b * b) := by rw [Nat.mul_mul_mul_comm, Nat.mul_comm]
    rw [e2]
    rw [Nat.mul_add, Nat.mul_one, Nat.mul_assoc] at l1
    generalize P * P * (b * b) = z at *
    omega
  have u2 : (M : Int) < 4 * ((((a * P : Nat) : Int) + (P : Int)) * (((a * P : Nat) : Int) + (P : Int))) := by
    have e1 : ((a * P : Nat) : Int) + (P : Int) = (((a + 1) * P : Nat) : Int) := by rw [Nat.add_mul, Nat.one_mul]; omega
    rw [e1, ← Int.natCast_mul]
    have e2 : (a + 1) * P * ((a + 1) * P) = P * P * ((a + 1) * (a + 1)) := by rw [Nat.mul_mul_mul_comm, Nat.mul_comm]
    rw [e2]
    rw [Nat.mul_add (4 * (P * P)) m 1, Nat.mul_one, Nat.mul_assoc 4 (P * P) ((a + 1) * (a + 1))] at u1
    generalize P * P * ((a + 1) * (a + 1)) = z at *
    generalize 4 * (P * P) * m = y at *
    omega
  have k := newton (M : Int) ((a * P : Nat) : Int) (P : Int) (q : Int) (by omega) (by rw [← Int.natCast_mul]; omega) (by omega)
    (by
      have : (4 * ((a * P : Nat) : Int) * (q : Int)) = ((4 * (a * P) * q : Nat) : Int) := by simp
      rw [this]; omega)
    (by
      have : (4 * ((a * P : Nat) : Int) * ((q : Int) + 1)) = ((4 * (a * P) * (q + 1) : Nat) : Int) := by simp
      rw [this, Nat.mul_add]; omega) l2 u2
  generalize a * P = A at *
  have e1 : ((A : Int) + (q : Int) - 1) = ((A + q - 1 : Nat) : Int) := by omega
  have e2 : ((A : Int) + (q : Int) + 1) = ((A + q + 1 : Nat) : Int) := by omega
  rw [e1, e2, ← Int.natCast_mul, ← Int.natCast_mul] at k
  exact ⟨by omega, by omega, by omega⟩

end Go.Proofs.Ytlegcekklknjhaa

/-
  What math/bits.Len64, nat.Len and nat.Bit answer.
-/
namespace Go.Proofs.Ytlegcekklknjhaa
open Go.RowKit

set_option maxRecDepth 20000 in
set_option maxHeartbeats 4000000 in
set_option maxRecDepth 100000 in
theorem len64_any (x : Int) (w : World) (h0 : 0 ≤ x) (h1 : x ≤ 4294967295) :
    Calls Try.prog 76 #[.int .u64 x] w fun e w' => e = .returned (.int .i64 (Lib.bitLen x.toNat)) ∧ w' = w := by
  have hs := len8tab_size
  have hn : ¬ (4294967296 : Int) ≤ x := by omega
  go_enter Try.func76, Try.ntmps76
  go_wp2
  all_goals (go_ret; refine ⟨congrArg Ending.returned (congrArg (Value.int IntKind.i64) ?_), rfl⟩)
  · exact len_case x (x / 65536 / 256) 24 (x.toNat / 16777216) (by omega) (by omega) (by omega) (Lib.bitLen_shift24 x.toNat (by omega) (by omega))
  · exact len_case x (x / 65536) 16 (x.toNat / 65536) (by omega) (by omega) (by omega) (Lib.bitLen_shift16 x.toNat (by omega) (by omega))
  · exact len_case x (x / 256) 8 (x.toNat / 256) (by omega) (by omega) (by omega) (Lib.bitLen_shift8 x.toNat (by omega) (by omega))
  · have := len_case x x 0 x.toNat (by omega) (by omega) rfl (by omega) (h := by omega)
    rw [Int.natCast_zero, Int.zero_add] at this
    exact this

/-- A number's bits, by its highest limb's. -/
theorem len_top (x m : Nat) (hm : nl W32 x = m + 1) : 2 ^ (32 * m + Lib.bitLen (dg W32 x m).toNat - 1) ≤ x ∧ x < 2 ^ (32 * m + Lib.bitLen (dg W32 x m).toNat) ∧ 0 < Lib.bitLen (dg W32 x m).toNat ∧ Lib.bitLen (dg W32 x m).toNat ≤ 32 := by
  have hlt := lt_pow_nl W32 x (by decide)
  have hge := pow_le_of_nl W32 x (by omega)
  rw [hm] at hlt hge
  rw [show m + 1 - 1 = m by omega] at hge
  have hP : 0 < W32 ^ m := Nat.pow_pos (by decide)
  have e2 : W32 ^ (m + 1) = W32 ^ m * 4294967296 := Nat.pow_succ _ _
  have etop : (dg W32 x m).toNat = x / W32 ^ m := by
    unfold dg
    rw [Int.toNat_natCast, Nat.mod_eq_of_lt]
    exact Nat.div_lt_of_lt_mul (by rw [e2] at hlt; exact hlt)
  rw [etop]
  have hdm := Nat.div_add_mod x (W32 ^ m)
  have hml := Nat.mod_lt x hP
  have ht1 : 1 ≤ x / W32 ^ m := (Nat.le_div_iff_mul_le hP).2 (by omega)
  have ht2 : x / W32 ^ m < 4294967296 := Nat.div_lt_of_lt_mul (by rw [e2] at hlt; exact hlt)
  generalize x / W32 ^ m = t at *
  generalize x % W32 ^ m = r at *
  obtain ⟨b1, b2, b3⟩ := bitLen_pow t (by omega) (by omega)
  have b4 : Lib.bitLen t ≤ 32 := Lib.bitLen_le t 32 (by omega) (by omega)
  generalize Lib.bitLen t = L at *
  have eP : W32 ^ m = 2 ^ (32 * m) := by rw [Nat.pow_mul]
  have p1 : 2 ^ (32 * m + L - 1) = 2 ^ (32 * m) * 2 ^ (L - 1) := by rw [← Nat.pow_add]; congr 1; omega
  have p2 : 2 ^ (32 * m + L) = 2 ^ (32 * m) * 2 ^ L := Nat.pow_add _ _ _
  rw [p1, p2, ← eP]
  clear p1 p2 eP
  generalize W32 ^ m = P at *
  have h1 : P * 2 ^ (L - 1) ≤ P * t := Nat.mul_le_mul_left _ b1
  have h2 : P * (t + 1) ≤ P * 2 ^ L := Nat.mul_le_mul_left _ b2
  rw [Nat.mul_add, Nat.mul_one] at h2
  exact ⟨by omega, by omega, b3, b4⟩

/-- One bit of a limb is one bit of the number. -/
theorem bit_of (y s : Nat) (hs : s < 32) : y % 4294967296 / 2 ^ s % 2 = y / 2 ^ s % 2 := by
  have hp : 0 < 2 ^ s := Nat.two_pow_pos s
  have e : 4294967296 = 2 ^ s * 2 ^ (32 - s) := by rw [← Nat.pow_add, show s + (32 - s) = 32 by omega]
  have e2 : 2 ^ (32 - s) = 2 * 2 ^ (31 - s) := by rw [Nat.mul_comm, ← Nat.pow_succ]; congr 1; omega
  have h1 := Nat.div_add_mod y 4294967296
  have h2 : y = 2 ^ s * (2 * (2 ^ (31 - s) * (y / 4294967296))) + y % 4294967296 := by
    rw [← Nat.mul_assoc 2, ← e2, ← Nat.mul_assoc, ← e]; omega
  generalize y % 4294967296 = r at *
  generalize 2 ^ (31 - s) * (y / 4294967296) = z at *
  rw [h2, Nat.mul_add_div hp, Nat.mul_add_mod]
theorem bit_num (x i : Nat) : (dg W32 x (i / 32)).toNat / 2 ^ (i % 32) % 2 = x / 2 ^ i % 2 := by
  unfold dg
  rw [Int.toNat_natCast, show (W32 : Nat) = 4294967296 from rfl, bit_of _ _ (Nat.mod_lt _ (by omega)), Nat.div_div_eq_div_mul]
  have e : 4294967296 ^ (i / 32) * 2 ^ (i % 32) = 2 ^ i := by
    have : (4294967296 : Nat) = 2 ^ 32 := rfl
    rw [this, ← Nat.pow_mul, ← Nat.pow_add, Nat.div_add_mod]
  rw [e]

set_option maxRecDepth 20000 in
set_option maxHeartbeats 400000 in
theorem limb_far (v : Value) (n : Nat) (f : Nat → Int) (w : World) (i : Nat) (h : Nums .u64 w v n f) (h1 : i ≤ 9223372036854775807) :
    Calls Try.prog 67 #[v, .int .i64 (i : Int)] w fun e w' => e = .returned (.int .u64 (at0 f n i)) ∧ w' = w := by
  obtain ⟨ao, c, rfl, _, hl, h4⟩ := h
  unfold LIM at hl
  by_cases hi : i < n
  · obtain ⟨b, off, rfl, hc⟩ := h4 (by omega)
    have hcell := hc i hi
    go_enter Try.func67, Try.ntmps67
    go_wp2
    go_ret
    exact ⟨by simp [at0, hi], rfl⟩
  · go_enter Try.func67, Try.ntmps67
    go_wp2
    go_ret
    exact ⟨by simp [at0, hi], rfl⟩

end Go.Proofs.Ytlegcekklknjhaa

/-
  What nat.divide answers of any two numbers, the second not 0.
-/
namespace Go.Proofs.Ytlegcekklknjhaa
open Go.RowKit

set_option maxRecDepth 20000 in
set_option maxHeartbeats 1000000 in
theorem divide_long (u v : Value) (x y : Nat) (w : World) (hu : Rep w u x) (hv : Rep w v y) (h : y ≤ x) (h2 : 2 < nl W32 x) (hy1 : 2 ≤ nl W32 y) (hlx : nl W32 x ≤ 999999) :
    Calls Try.prog 45 #[u, v] w fun e w' => ∃ q r, e = .returned (.tuple #[q, r]) ∧ RepM w.heap.size w' q (x / y) ∧ RepM w.heap.size w' r (x % y) ∧ Below w.heap.size w w' := by
  have hc : ¬ cmpI x y < 0 := by unfold cmpI; rw [if_neg (by omega)]; split <;> omega
  have hle : nl W32 y ≤ nl W32 x := by
    by_cases g : nl W32 x < nl W32 y
    · have := lt_of_nl W32 x y (by decide) g; omega
    · omega
  obtain ⟨m, hm⟩ : ∃ m, nl W32 y = m + 2 := ⟨nl W32 y - 2, by omega⟩
  have hu0 := hu
  have hv0 := hv
  obtain ⟨ao, c, rfl, hl⟩ := rep_val hu0
  obtain ⟨bo, d, rfl, kl⟩ := rep_val hv0
  clear hu0 hv0
  have HD : Hid (nl W32 y = m + 2) := hm
  have HL : Hid (m + 2 ≤ nl W32 x) := by show _ ≤ _; omega
  have HX : Hid (nl W32 x ≤ 999999) := hlx
  have HC : Hid (∀ w1 : World, Rep w1 (.slice ao (nl W32 x) c) x → Rep w1 (.slice bo (nl W32 y) d) y → Calls Try.prog 60 #[.slice ao (nl W32 x) c, .slice bo (nl W32 y) d] w1 fun e w' => ∃ q r, e = .returned (.tuple #[q, r]) ∧ RepM w1.heap.size w' q (x / y) ∧ RepM w1.heap.size w' r (x % y) ∧ Below w1.heap.size w1 w') := fun w1 hu hv => divLong_any _ _ x y m w1 hu hv HL.out HD.out HX.out
  clear HD HL HX hm
  generalize nl W32 x = la at *
  generalize nl W32 y = lb at *
  go_enter Try.func45, Try.ntmps45
  go_wp2_with fail
  refine (cmp_rep _ _ _ _ _ hu hv).mono ?_
  rintro e w1 ⟨rfl, hb1⟩
  have s1 := hb1.size
  have n1 : ¬ (la : Int) ≤ 2 := by omega
  have n2 : ((lb : Int) == 1) = false := by simp; omega
  go_wp2_with fail
  refine (HC.out _ (Nums.below hu hb1) (Nums.below hv hb1)).mono ?_
  rintro e w2 ⟨q, r, rfl, hq, hr, hb2⟩
  go_wp2
  go_ret2
  exact ⟨_, _, rfl, hq.le s1, hr.le s1, hb1.trans (hb2.mono s1)⟩

theorem divide_any (x y : Nat) (hy : 0 < y) (hx : nl W32 x ≤ 999999) : DivideOk x y := by
  intro u v w hu hv
  have hny : 0 < nl W32 y := by
    rcases Nat.eq_zero_or_pos (nl W32 y) with e | e
    · have := (nl_eq_zero W32 y (by decide)).1 e; omega
    · exact e
  by_cases h : x < y
  · exact divide_less u v x y w hu hv h
  · by_cases h2 : nl W32 x ≤ 2
    · exact divide_small u v x y w hu hv hy (by omega) h2
    · by_cases h3 : nl W32 y = 1
      · exact divide_limb u v x y w hu hv (by omega) (by omega) h3
      · exact divide_long u v x y w hu hv (by omega) (by omega) (by omega) hx

end Go.Proofs.Ytlegcekklknjhaa

/-
  What math/bits.Len and nat.Sqrt answer.
-/
namespace Go.Proofs.Ytlegcekklknjhaa
open Go.RowKit

set_option maxRecDepth 20000 in
set_option maxHeartbeats 400000 in
theorem blen_any (x : Int) (w : World) (h0 : 0 ≤ x) (h1 : x ≤ 4294967295) :
    Calls Try.prog 73 #[.int .u64 x] w fun e w' => e = .returned (.int .i64 (Lib.bitLen x.toNat)) ∧ w' = w := by
  go_enter Try.func73, Try.ntmps73
  go_wp2_with (go_at_call 76; refine (len64_any x _ h0 h1).mono ?_; rintro e w2 ⟨rfl, hw2⟩; subst hw2)
  go_ret
  exact ⟨rfl, rfl⟩

/-- A root's greatness. -/
theorem root_nl (x A k : Nat) (hx : x < W32 ^ 60) (h : (A - 1) * (A - 1) < x / 4 ^ k) : nl W32 A ≤ 31 := by
  refine nl_le W32 A 31 (by decide) ?_
  by_cases g : A < W32 ^ 31
  · exact g
  · exfalso
    have h1 : W32 ^ 30 ≤ A - 1 := by
      have e : W32 ^ 31 = W32 ^ 30 * W32 := Nat.pow_succ _ _
      have e2 : W32 ^ 30 * 2 ≤ W32 ^ 30 * W32 := Nat.mul_le_mul_left _ (by decide)
      have e3 : 0 < W32 ^ 30 := Nat.pow_pos (by decide)
      omega
    have h2 : W32 ^ 30 * W32 ^ 30 ≤ (A - 1) * (A - 1) := Nat.mul_le_mul h1 h1
    rw [← Nat.pow_add] at h2
    have h3 := Nat.div_le_self x (4 ^ k)
    have : W32 ^ (30 + 30) = W32 ^ 60 := rfl
    omega

/-- Where the root begins. -/
theorem root_start (x L c : Nat) (h1 : 2 ^ (L - 1) ≤ x) (h2 : x < 2 ^ L) (hL : 0 < L) (hc : c = (L - 1) / 2) : 4 ^ c ≤ x ∧ 0 < x / 4 ^ c ∧ x / 4 ^ c < 4 := by
  have e4 : (4 : Nat) ^ c = 2 ^ (2 * c) := by rw [Nat.pow_mul]
  have a1 : 4 ^ c ≤ x := by rw [e4]; exact Nat.le_trans (Nat.pow_le_pow_right (by omega) (by omega)) h1
  have a2 : x < 4 ^ c * 4 := by
    rw [e4, show 2 ^ (2 * c) * 4 = 2 ^ (2 * c + 2) by rw [Nat.pow_add]]
    exact Nat.lt_of_lt_of_le h2 (Nat.pow_le_pow_right (by omega) (by omega))
  exact ⟨a1, Nat.div_pos a1 (Nat.pow_pos (by omega)), Nat.div_lt_of_lt_mul a2⟩

/-- Of a number's bits one more. -/
theorem next_bit (c i : Nat) (h : 2 ^ i ≤ c) : c / 2 ^ (i + 1) < c / 2 ^ i ∧ c / 2 ^ i ≤ 2 * (c / 2 ^ (i + 1)) + 1 ∧ c / 2 ^ i ≤ c := by
  have h1 : 1 ≤ c / 2 ^ i := (Nat.le_div_iff_mul_le (Nat.two_pow_pos i)).2 (by omega)
  have e : c / 2 ^ (i + 1) = c / 2 ^ i / 2 := by rw [Nat.pow_succ, Nat.div_div_eq_div_mul]
  have h2 := Nat.div_le_self c (2 ^ i)
  rw [e]
  generalize c / 2 ^ i = d at *
  omega

end Go.Proofs.Ytlegcekklknjhaa

/-
  What nat.power and nat.Pow answer.
-/
namespace Go.Proofs.Ytlegcekklknjhaa
open Go.RowKit

theorem two63' : (2 : Int) ^ 63 = 9223372036854775808 := by decide
theorem and_one_int (i : Nat) (hi : i < 9223372036854775808) : bits BinOp.and IntKind.i64 (i : Int) 1 = ((i % 2 : Nat) : Int) := by
  have h := bits_mask .i64 63 (by decide) (fun n h0 h1 => by rw [two63'] at h1; rw [IntKind.wrap_i64]; omega) 1 (by decide) (i : Int) (by omega) (by rw [two63']; omega)
  have e : ((2 : Int) ^ 1 - 1) = 1 := by decide
  rw [e] at h
  rw [h]
  omega

theorem nl_pow (x l n : Nat) (h : nl W32 x ≤ l) : nl W32 (x ^ n) ≤ l * n + 1 := by
  refine nl_le W32 _ _ (by decide) ?_
  have h1 : x < W32 ^ l := Nat.lt_of_lt_of_le (lt_pow_nl W32 x (by decide)) (Nat.pow_le_pow_right (by decide) h)
  have h2 : x ^ n ≤ (W32 ^ l) ^ n := Nat.pow_le_pow_left (Nat.le_of_lt h1) n
  rw [← Nat.pow_mul] at h2
  have h3 : W32 ^ (l * n) < W32 ^ (l * n + 1) := Nat.pow_lt_pow_right (by decide) (by omega)
  omega

theorem half_pow (x n i : Nat) : x ^ (n / 2 ^ (i + 1)) * x ^ (n / 2 ^ (i + 1)) * x ^ (n / 2 ^ i % 2) = x ^ (n / 2 ^ i) := by
  rw [← Nat.pow_add, ← Nat.pow_add]
  congr 1
  rw [Nat.pow_succ, ← Nat.div_div_eq_div_mul]
  generalize n / 2 ^ i = m
  omega

set_option maxRecDepth 20000 in
set_option maxHeartbeats 2000000 in
theorem power_any (u : Value) (x n : Nat) (w : World) (hu : Rep w u x) (hn : n ≤ 4096) (hx : nl W32 x ≤ 40) :
    Calls Try.prog 65 #[u, .int .i64 (n : Int)] w fun e w' => ∃ r, e = .returned r ∧ RepM w.heap.size w' r (x ^ n) ∧ Below w.heap.size w w' := by
  have hT0 : n = 0 → Lib.bitLen n = 0 := fun e => by rw [e]; decide
  have hTb : n ≠ 0 → 2 ^ (Lib.bitLen n - 1) ≤ n ∧ n < 2 ^ Lib.bitLen n ∧ 0 < Lib.bitLen n := fun e => bitLen_pow n e (by omega)
  have hT32 : Lib.bitLen n ≤ 32 := Lib.bitLen_le n 32 (by omega) (by omega)
  have HT1 : Hid (n < 2 ^ Lib.bitLen n) := by
    show _ < _
    by_cases e : n = 0
    · rw [hT0 e, e]; omega
    · exact (hTb e).2.1
  clear hT0 hTb
  have HNL : Hid (∀ m, m ≤ n → nl W32 (x ^ m) ≤ 163841) := fun m hm => Nat.le_trans (nl_pow x 40 m hx) (by omega)
  go_enter Try.func65, Try.ntmps65
  go_wp2_with fail
  refine (of_any 1 _ (by omega) (by omega)).mono ?_
  rintro e w3 ⟨o3, rfl, ho3, hb3⟩
  go_wp2_with fail
  refine (blen_any (n : Int) _ (by omega) (by omega)).mono ?_
  rintro e w4 ⟨rfl, hw4⟩
  subst hw4
  rw [Int.toNat_natCast]
  generalize Lib.bitLen n = T at *
  go_wp2
  go_loopw [5, 6] (fun vo vi wr => ∃ k : Nat, k ≤ T ∧ vi = .int .i64 ((k : Int) - 1) ∧ RepM w.heap.size wr vo (x ^ (n / 2 ^ k)) ∧ Below w.heap.size w wr) (fun _ vi _ => (intOf vi + 1).toNat)
  case atStart =>
    have e : n / 2 ^ T = 0 := Nat.div_eq_of_lt HT1.out
    exact ⟨T, Nat.le_refl _, rfl, by rw [e]; exact ho3, hb3⟩
  case round =>
    clear ho3 hb3
    obtain ⟨k, hk, rfl, hro, hbel⟩ := hrel
    have hsz := hbel.size
    cases k with
    | zero =>
      have e1 : (((0 : Nat) : Int) - 1) = -1 := by omega
      go_wp2
      go_ret
      exact ⟨_, rfl, by simpa using hro, hbel⟩
    | succ i =>
      have e1 : (((i + 1 : Nat) : Int) - 1) = (i : Int) := by omega
      rw [e1]
      have hhp := half_pow x n i
      have hm1 : n / 2 ^ (i + 1) ≤ n := Nat.div_le_self _ _
      have hm0 : n / 2 ^ i ≤ n := Nat.div_le_self _ _
      have hdi : ((n : Int) / 2 ^ i) = ((n / 2 ^ i : Nat) : Int) := by rw [Int.natCast_ediv]; simp
      have hand := and_one_int (n / 2 ^ i) (by omega)
      have hN1 := HNL.out _ hm1
      have hN0 : nl W32 (x ^ (n / 2 ^ (i + 1)) * x ^ (n / 2 ^ (i + 1))) ≤ 163841 := by
        rw [← Nat.pow_add]
        refine HNL.out _ ?_
        rw [Nat.pow_succ, ← Nat.div_div_eq_div_mul]
        omega
      have HHP : Hid (x ^ (n / 2 ^ (i + 1)) * x ^ (n / 2 ^ (i + 1)) * x ^ (n / 2 ^ i % 2) = x ^ (n / 2 ^ i)) := hhp
      have hPP : Hid (ProdAt (x ^ (n / 2 ^ (i + 1))) (x ^ (n / 2 ^ (i + 1)))) := product_all _ _ (by omega)
      have hPX : Hid (ProdAt (x ^ (n / 2 ^ (i + 1)) * x ^ (n / 2 ^ (i + 1))) x) := product_all _ _ (by omega)
      clear hhp hN1 hN0 hm1
      generalize hm : n / 2 ^ i = m at *
      have HM : Hid (n / 2 ^ i = m) := hm
      clear hm
      generalize x ^ (n / 2 ^ (i + 1)) = A at *
      have hbit : m % 2 = 0 ∨ m % 2 = 1 := by omega
      rcases hbit with hb | hb
      · rw [hb] at hand HHP
        go_wp2_with fail
        refine (hPP.out _ _ _ hro.rep hro.rep).mono ?_
        rintro e w5 ⟨r5, rfl, hr5, hb5⟩
        have hr5' : RepM w.heap.size w5 r5 (A * A) := hr5.le hsz
        have bel5 : Below w.heap.size w w5 := hbel.trans (hb5.mono hsz)
        clear hr5 hb5 hro hbel
        go_wp2
        go_roundw
        case rel => exact ⟨i, by omega, by go_num, by rw [HM.out, ← HHP.out]; simpa using hr5', bel5⟩
        case measure => simp [intOf]
      · rw [hb] at hand HHP
        go_wp2_with fail
        refine (hPP.out _ _ _ hro.rep hro.rep).mono ?_
        rintro e w5 ⟨r5, rfl, hr5, hb5⟩
        have hs5 := hb5.size
        have hu5 := Nums.below (Nums.below hu hbel) hb5
        go_wp2_with fail
        refine (hPX.out _ _ _ hr5.rep hu5).mono ?_
        rintro e w6 ⟨r6, rfl, hr6, hb6⟩
        have hr6' : RepM w.heap.size w6 r6 (A * A * x) := hr6.le (by omega)
        have bel6 : Below w.heap.size w w6 := hbel.trans ((hb5.mono hsz).trans (hb6.mono (by omega)))
        clear hr5 hb5 hro hbel hr6 hb6 hu5
        go_wp2
        go_roundw
        case rel => exact ⟨i, by omega, by go_num, by rw [HM.out, ← HHP.out]; simpa using hr6', bel6⟩
        case measure => simp [intOf]

end Go.Proofs.Ytlegcekklknjhaa

/-
  What nat.writeBlocks answers of any number and any powers of ten.
-/
namespace Go.Proofs.Ytlegcekklknjhaa
open Go.RowKit

/-- The powers of ten that a number is cut by. -/
def ten (i : Nat) : Nat := 10 ^ (288 * 2 ^ i)
theorem ten_pos (i : Nat) : 0 < ten i := Nat.pow_pos (by decide)
theorem ten_succ (i : Nat) : ten i * ten i = ten (i + 1) := by
  unfold ten
  rw [← Nat.pow_add, Nat.pow_succ]; congr 1; omega

/-- A number whose limbs lie below B. -/
def RepB (B : Nat) (w : World) (v : Value) (m : Nat) : Prop :=
  ∃ ao c, v = .slice ao (nl W32 m) c ∧ nl W32 m ≤ c ∧ nl W32 m ≤ LIM ∧ (0 < nl W32 m → ∃ b off, ao = some ⟨b, off, none⟩ ∧ Cells w .u64 b off (nl W32 m) (dg W32 m) ∧ b < B)
theorem RepB.rep {B : Nat} {w : World} {v : Value} {m : Nat} (h : RepB B w v m) : Rep w v m := by
  obtain ⟨ao, c, h1, h2, h3, h4⟩ := h
  exact ⟨ao, c, h1, h2, h3, fun hn => let ⟨b, off, e, hc, _⟩ := h4 hn; ⟨b, off, e, hc⟩⟩
theorem RepB.below {B : Nat} {w w' : World} {v : Value} {m : Nat} (h : RepB B w v m) (hb : Below B w w') : RepB B w' v m := by
  obtain ⟨ao, c, h1, h2, h3, h4⟩ := h
  exact ⟨ao, c, h1, h2, h3, fun hn => let ⟨b, off, e, hc, hl⟩ := h4 hn; ⟨b, off, e, hc.below hb hl, hl⟩⟩
theorem RepB.mono {B B' : Nat} {w : World} {v : Value} {m : Nat} (h : RepB B w v m) (hb : B ≤ B') : RepB B' w v m := by
  obtain ⟨ao, c, h1, h2, h3, h4⟩ := h
  exact ⟨ao, c, h1, h2, h3, fun hn => let ⟨b, off, e, hc, hl⟩ := h4 hn; ⟨b, off, e, hc, by omega⟩⟩
theorem Rep.repB {w : World} {v : Value} {m : Nat} (h : Rep w v m) : RepB w.heap.size w v m := by
  obtain ⟨ao, c, h1, h2, h3, h4⟩ := h
  exact ⟨ao, c, h1, h2, h3, fun hn => let ⟨b, off, e, hc⟩ := h4 hn; ⟨b, off, e, hc, hc.lt hn⟩⟩

/-- A row of such powers, in memory below B. -/
def Tens (B : Nat) (w : World) (v : Value) (t : Nat) : Prop :=
  ∃ ao c, v = .slice ao t c ∧ t ≤ c ∧ (0 < t → ∃ b off, ao = some ⟨b, off, none⟩ ∧ b < B ∧ ∀ i, i < t → ∃ u, w.cell? ⟨b, off + i, none⟩ = some u ∧ RepB B w u (ten i))
theorem Tens.below {B : Nat} {w w' : World} {v : Value} {t : Nat} (h : Tens B w v t) (hb : Below B w w') : Tens B w' v t := by
  obtain ⟨ao, c, h1, h2, h4⟩ := h
  refine ⟨ao, c, h1, h2, fun hn => ?_⟩
  obtain ⟨b, off, e, hl, hc⟩ := h4 hn
  refine ⟨b, off, e, hl, fun i hi => ?_⟩
  obtain ⟨u, hu, hr⟩ := hc i hi
  exact ⟨u, (hb.cell hl).trans hu, hr.below hb⟩

theorem dd_hi (x p H : Nat) : dd (x / 10 ^ H) p = dd x (H + p) := by
  unfold dd
  rw [Nat.div_div_eq_div_mul, ← Nat.pow_add]
theorem dd_lo (x p H : Nat) (h : p < H) : dd (x % 10 ^ H) p = dd x p := by
  unfold dd
  have e : 10 ^ H = 10 ^ (p + 1) * 10 ^ (H - p - 1) := by rw [← Nat.pow_add]; congr 1; omega
  have e2 : x % 10 ^ H % 10 ^ (p + 1) = x % 10 ^ (p + 1) := by rw [e]; exact Nat.mod_mul_right_mod _ _ _
  have e3 : ∀ y, y / 10 ^ p % 10 = y % 10 ^ (p + 1) / 10 ^ p := fun y => by rw [Nat.pow_succ, Nat.mod_mul_right_div_self]
  rw [e3, e3 x, e2]

set_option maxRecDepth 20000 in
set_option maxHeartbeats 400000 in
theorem writeBlocks_base (go oo L c K cc : Nat) (ao : Option Addr) (va : Value) (x : Nat) (h0 : Nat → Int) (w : World) (hL : L = 9 * K) (hlim : L ≤ LIM) (hgo : go < w.heap.size)
    (hout : Cells w .u8 go oo L h0) (hsoft : Soft w go oo L) (ha : Rep w va x) :
    Calls Try.prog 52 #[.slice (some ⟨go, oo, none⟩) L c, va, .slice ao 0 cc] w fun e w' =>
      e = .returned (.tuple #[]) ∧ Cells w' .u8 go oo L (fun i => dd x (L - 1 - i)) ∧ UpdB w.heap.size w w' go oo L := by
  have HL : Hid (L = 9 * K) := hL
  clear hL
  go_enter Try.func52, Try.ntmps52
  go_wp2_with fail
  refine (clean_rep _ _ _ ha).mono ?_
  rintro e w1 ⟨v1, rfl, hv1, hb1⟩
  go_wp2_with fail
  refine (chunks_any w.heap.size _ _ _ _ K _ x h0 _ HL.out hlim hgo hb1.size (hout.below hb1 hgo) (hsoft.below hb1 hgo) hv1).mono ?_
  rintro e w2 ⟨rfl, hc2, hu2⟩
  go_wp2
  refine bodyPost_ret (results_none rfl _ _ _) rfl ?_
  exact ⟨rfl, hc2, (UpdB.of_below hb1 hgo).trans hu2⟩

/-- What writeBlocks is to do with t powers of ten. -/
def WritesAt (t : Nat) : Prop := ∀ (go oo c B : Nat) (va vt : Value) (x : Nat) (h0 : Nat → Int) (w : World), B ≤ go → go < w.heap.size → 288 * 2 ^ t ≤ c →
    Cells w .u8 go oo (288 * 2 ^ t) h0 → Soft w go oo (288 * 2 ^ t) → Rep w va x → nl W32 x ≤ 900000 → Tens B w vt t →
    Calls Try.prog 52 #[.slice (some ⟨go, oo, none⟩) (288 * 2 ^ t) c, va, vt] w fun e w' =>
      e = .returned (.tuple #[]) ∧ Cells w' .u8 go oo (288 * 2 ^ t) (fun i => dd x (288 * 2 ^ t - 1 - i)) ∧ UpdB w.heap.size w w' go oo (288 * 2 ^ t)

set_option maxRecDepth 20000 in
set_option maxHeartbeats 1000000 in
theorem writes_step (t : Nat) (ht : t ≤ 20) (IH : WritesAt t) : WritesAt (t + 1) := by
  intro go oo c B va vt x h0 w hB hgo hc hout hsoft ha hx htens
  have hH20 : 2 ^ t ≤ 2 ^ 20 := Nat.pow_le_pow_right (by omega) ht
  have hLs : 288 * 2 ^ (t + 1) = 2 * (288 * 2 ^ t) := by rw [Nat.pow_succ]; omega
  have hp : 0 < 2 ^ t := Nat.two_pow_pos t
  unfold WritesAt at IH
  have htn : ten t = 10 ^ (288 * 2 ^ t) := rfl
  rw [hLs] at hc hout hsoft ⊢
  generalize 288 * 2 ^ t = H at *
  have hHb : 288 ≤ H ∧ H ≤ 301989888 := by omega
  obtain ⟨hH1, hH2⟩ := hHb
  have htens0 := htens
  obtain ⟨ao, cc, rfl, htc, h4⟩ := htens
  obtain ⟨b, off, rfl, hbB, hcells⟩ := h4 (by omega)
  obtain ⟨u, hu, hru⟩ := hcells t (by omega)
  have hT0 : Tens B w (.slice (some ⟨b, off, none⟩) t cc) t := ⟨_, _, rfl, by omega, fun _ => ⟨_, _, rfl, hbB, fun i hi => hcells i (by omega)⟩⟩
  have hD : Hid (DivideOk x (ten t)) := divide_any x (ten t) (ten_pos t) (by omega)
  have hq : nl W32 (x / ten t) ≤ 900000 := Nat.le_trans (nl_le W32 _ (nl W32 x) (by decide) (Nat.lt_of_le_of_lt (Nat.div_le_self _ _) (lt_pow_nl W32 x (by decide)))) hx
  have hr : nl W32 (x % ten t) ≤ 900000 := Nat.le_trans (nl_le W32 _ (nl W32 x) (by decide) (Nat.lt_of_le_of_lt (Nat.mod_le _ _) (lt_pow_nl W32 x (by decide)))) hx
  have HQD : Hid (∀ p, dd (x / ten t) p = dd x (H + p)) := fun p => by rw [htn]; exact dd_hi x p H
  have HRD : Hid (∀ p, p < H → dd (x % ten t) p = dd x p) := fun p hp => by rw [htn]; exact dd_lo x p H hp
  have hru' := hru.rep
  clear hH20 hLs hp hcells htens0 hx h4 htn
  have hL2 : (2 * (H : Int)) / 2 = (H : Int) := by omega
  go_enter Try.func52, Try.ntmps52
  go_wp2_with fail
  refine (hD.out _ _ _ ha hru').mono ?_
  rintro e w1 ⟨vq, vr, rfl, hq1, hr1, hb1⟩
  have s1 := hb1.size
  have hgo1 : go < w1.heap.size := by omega
  have hout1 := hout.below hb1 hgo
  have hsoft1 := hsoft.below hb1 hgo
  have hT1 : Tens B w1 (.slice (some ⟨b, off, none⟩) t cc) t := hT0.below (hb1.mono (by omega))
  have hc1 : H ≤ c := by omega
  have hc2 : H ≤ c - H := by omega
  have hout1a := hout1.mono (show H ≤ 2 * H by omega)
  have hsoft1a := hsoft1.mono (show H ≤ 2 * H by omega)
  have hqr := hq1.rep
  have HIH : Hid (∀ (go oo c B : Nat) (va vt : Value) (x : Nat) (h0 : Nat → Int) (w : World), B ≤ go → go < w.heap.size → H ≤ c →
    Cells w .u8 go oo H h0 → Soft w go oo H → Rep w va x → nl W32 x ≤ 900000 → Tens B w vt t →
    Calls Try.prog 52 #[.slice (some ⟨go, oo, none⟩) H c, va, vt] w fun e w' =>
      e = .returned (.tuple #[]) ∧ Cells w' .u8 go oo H (fun i => dd x (H - 1 - i)) ∧ UpdB w.heap.size w w' go oo H) := IH
  clear IH hT0 hout hsoft ha hru hru' hu hD
  generalize hQ : x / ten t = Q at *
  generalize hR : x % ten t = R at *
  clear hQ hR
  have i1 : (0 : Int) ≤ (H : Int) := by omega
  have i2 : (H : Int) ≤ (c : Int) := by omega
  have i3 : (H : Int) ≤ 2 * (H : Int) := by omega
  have i4 : (t : Int) ≤ (cc : Int) := by omega
  have i5 : (0 : Int) ≤ (t : Int) := by omega
  have i6 : (t : Int) ≤ (t : Int) + 1 := by omega
  have i7 : 2 * (H : Int) ≤ (c : Int) := by omega
  have n1 : ¬ c = H := by omega
  have n2 : H ≤ 2 * H := by omega
  have n3 : t ≤ cc := by omega
  have n4 : 2 * H - H = H := by omega
  go_wp2
  go_region_held3 (fun _ => True) (trivial) (first
    | (go_at_call 52; refine (HIH.out go oo c B vq (.slice (some ⟨b, off, none⟩) t cc) Q h0 _ hB (by exact hgo1) hc1 (by exact hout1a) (by exact hsoft1a) (by exact hqr) hq (by exact hT1)).mono ?_; rintro e w2 ⟨rfl, hcq, hu20⟩; have hu2 : UpdB w1.heap.size w1 w2 go oo H := ⟨hu20.os, hu20.tape, hu20.output, hu20.size, hu20.block, hu20.cell, hu20.froz⟩))
  have s2 := hu2.size
  have hgo2 : go < w2.heap.size := by omega
  have hout2 : Cells w2 .u8 go (oo + H) H (fun i => h0 (H + i)) := fun i hi => by rw [hu2.cell _ (by omega)]; exact hout1.from H H (by omega) i hi
  have hsoft2 : Soft w2 go (oo + H) H := (hsoft1.from H H (by omega)).updB hu2
  have hT2 := hT1.below (hu2.below (B' := B) hB (by omega))
  have hr2 : Rep w2 vr R := by
    obtain ⟨ao, c', h1, h2, h3, h4⟩ := hr1
    refine ⟨ao, c', h1, h2, h3, fun hn => ?_⟩
    obtain ⟨b', off', e', hc', _, hB'⟩ := h4 hn
    refine ⟨b', off', e', fun i hi => ?_⟩
    rw [World.cell?_of_block (w := w1) (hu2.block b' (hc'.lt hn) (by omega))]
    exact hc' i hi
  clear hu20 hout1a hsoft1a hT1 hqr hq1 hr1
  go_wp2
  go_region_held3 (fun _ => True) (trivial) (first
    | (go_at_call 52; (try rw [n4]); refine (HIH.out go (oo + H) (c - H) B vr (.slice (some ⟨b, off, none⟩) t cc) R (fun i => h0 (H + i)) _ hB (by exact hgo2) hc2 (by exact hout2) (by exact hsoft2) (by exact hr2) hr (by exact hT2)).mono ?_; rintro e w3 ⟨rfl, hcr, hu30⟩; have hu3 : UpdB w2.heap.size w2 w3 go (oo + H) H := ⟨hu30.os, hu30.tape, hu30.output, hu30.size, hu30.block, hu30.cell, hu30.froz⟩))
  have hfin : Cells w3 .u8 go oo (2 * H) (fun i => dd x (2 * H - 1 - i)) := by
    intro i hi
    by_cases hiH : i < H
    · rw [hu3.cell _ (by omega), hcq i hiH]
      show some (Value.int IntKind.u8 (dd Q (H - 1 - i))) = some (Value.int IntKind.u8 (dd x (2 * H - 1 - i)))
      rw [HQD.out, show H + (H - 1 - i) = 2 * H - 1 - i by omega]
    · have h1 : w3.cell? ⟨go, oo + H + (i - H), none⟩ = some (Value.int IntKind.u8 (dd R (H - 1 - (i - H)))) := hcr (i - H) (by omega)
      rw [show oo + H + (i - H) = oo + i by omega, HRD.out _ (by omega), show H - 1 - (i - H) = 2 * H - 1 - i by omega] at h1
      exact h1
  have hU : UpdB w.heap.size w w3 go oo (2 * H) := (UpdB.of_below hb1 hgo).trans (((hu2.mono s1).wide (Nat.le_refl _) (by omega)).trans ((hu3.mono (by omega)).wide (by omega) (by omega)))
  clear hu30 hu3 hu2 hcr hcq hout2 hsoft2 hout1 hsoft1 hb1
  go_wp2
  go_end0
  exact ⟨rfl, hfin, hU⟩

theorem writes_all : ∀ t, t ≤ 21 → WritesAt t := by
  intro t
  induction t with
  | zero =>
    intro _ go oo c B va vt x h0 w hB hgo hc hout hsoft ha hx htens
    obtain ⟨ao, cc, rfl, _, _⟩ := htens
    exact writeBlocks_base go oo _ c 32 cc ao va x h0 w (by omega) (by unfold LIM; omega) hgo hout hsoft ha
  | succ t ih => exact fun h => writes_step t (by omega) (ih (by omega))

end Go.Proofs.Ytlegcekklknjhaa

/-
  What nat.blockTens answers: the powers of ten that cut a number.
-/
namespace Go.Proofs.Ytlegcekklknjhaa
open Go.RowKit

theorem info_nat : (Try.prog.info? 29).map (fun i => (i.zero, i.size, i.bytes)) = some (some (.slice none 0 0), 1, 24) := by kernel_rfl

/-- 'append' of one value to a row of the call's own: where the longer row lies. -/
theorem wpList_append_one {ops : Array Oper} {rest : List Oper} {o : Oper} {a : Act} {Q : Exit → Act → World → Prop} {w : World} (hgd : o.guard = none) (s x : Operand)
    (ho : o.op = .call { callee := .builtin .append, args := #[s, x], argTypes := #[79, 79] })
    (base g n cap : Nat) (us : List Value) (hs : a.eval s = .slice (some ⟨g, 0, none⟩) n cap) (hown : w.ownsRow base 29 1 (.slice (some ⟨g, 0, none⟩) n cap) n us)
    (ad : Addr) (c : Nat) (u : Value) (hx : a.eval x = .slice (some ad) 1 c) (hnew : ∀ j v, [u][j]? = some v → w.cell? (ad.add j) = some v) (hone : u.oneCell' = true) (hn : n ≤ 100000) (hbase : base ≤ w.heap.size)
    (h : ∀ g' cap' w', w'.ownsRow base 29 1 (.slice (some ⟨g', 0, none⟩) (n + 1) cap') (n + 1) (us ++ [u]) → w.grownBy w' (some g) → (g' = g ∨ g' = w.heap.size) → wpList Try.prog ops Q rest (a.put o.dst (.slice (some ⟨g', 0, none⟩) (n + 1) cap')) w') :
    wpList Try.prog ops Q (o :: rest) a w := by
  obtain ⟨i0, hi, hz0, hz1, hz2⟩ := info_parts info_nat
  have hone' : ∀ v ∈ [u], v.oneCell' = true := fun v hv => by simp at hv; rw [hv]; exact hone
  obtain ⟨v', w', hr, h2, h3, _⟩ := run_append_own (P := Try.prog) w base 79 o.type 29 i0 (.slice none 0 0) 1 24 Try.underlying79 hi hz0 hz1 hz2 rfl (by decide) _ n us hown ad 1 c [u] rfl hnew hone' (by unfold maxLen; omega) (by omega) hbase
  have hblk : ∃ g' cap', v' = .slice (some ⟨g', 0, none⟩) (n + 1) cap' ∧ (g' = g ∨ g' = w.heap.size) := by
    have hcells := hown.cells (g := g) rfl
    rcases hown.2 with ⟨h0, _⟩ | ⟨g0, cap0, cur, he, hbg, hg, hnc, hcm, hcs, htake⟩
    · cases h0
    · cases he
      by_cases hroom : n + 1 ≤ cap
      · have hr2 := run_append_room (P := Try.prog) w 79 o.type 29 i0 Try.underlying79 hi g n cap cur hg ad 1 c [u] (by rw [hz1]; rfl) hnew hone' hroom (by rw [hz1]; simp; omega)
        rw [hr2] at hr
        injection hr with hv hw
        exact ⟨g, cap, hv.symm, .inl rfl⟩
      · have hr2 := run_append_grow (P := Try.prog) w 79 o.type 29 i0 (.slice none 0 0) Try.underlying79 hi hz0 ⟨g, 0, none⟩ n cap us (by rw [hz1]; exact hown.1) hcells ad 1 c [u] (by rw [hz1]; rfl) hnew (by omega) (by omega) (growslice_fits (by omega) (by rw [hz2]; omega))
        rw [hr2] at hr
        injection hr with hv hw
        exact ⟨_, _, hv.symm, .inr rfl⟩
  obtain ⟨g', cap', rfl, hg'⟩ := hblk
  refine wpList_plain hgd fun K hK => ?_
  unfold Oper.wp execOp
  simp only [ho, resolve, invoke, builtin, Sem.run_bind, Sem.run_pure, Result.andThen_ok, List.map_toArray, List.map_cons, List.map_nil, hs, hx, hr]
  exact hK _ _ (h g' cap' w' h2 h3 hg')

/-- A number whose limbs do not lie in block g. -/
def RepN (g : Nat) (w : World) (v : Value) (m : Nat) : Prop :=
  ∃ ao c, v = .slice ao (nl W32 m) c ∧ nl W32 m ≤ c ∧ nl W32 m ≤ LIM ∧ (0 < nl W32 m → ∃ b off, ao = some ⟨b, off, none⟩ ∧ Cells w .u64 b off (nl W32 m) (dg W32 m) ∧ b ≠ g)
theorem RepN.rep {g : Nat} {w : World} {v : Value} {m : Nat} (h : RepN g w v m) : Rep w v m := by
  obtain ⟨ao, c, h1, h2, h3, h4⟩ := h
  exact ⟨ao, c, h1, h2, h3, fun hn => let ⟨b, off, e, hc, _⟩ := h4 hn; ⟨b, off, e, hc⟩⟩
theorem RepN.below {g : Nat} {w w' : World} {v : Value} {m : Nat} (h : RepN g w v m) (hb : Below w.heap.size w w') : RepN g w' v m := by
  obtain ⟨ao, c, h1, h2, h3, h4⟩ := h
  exact ⟨ao, c, h1, h2, h3, fun hn => let ⟨b, off, e, hc, hl⟩ := h4 hn; ⟨b, off, e, hc.below hb (hc.lt hn), hl⟩⟩
theorem RepN.grown {g g' : Nat} {w w' : World} {v : Value} {m : Nat} (h : RepN g w v m) (hg : w.grownBy w' (some g)) (h' : g' = g ∨ g' = w.heap.size) : RepN g' w' v m := by
  obtain ⟨ao, c, h1, h2, h3, h4⟩ := h
  refine ⟨ao, c, h1, h2, h3, fun hn => ?_⟩
  obtain ⟨b, off, e, hc, hl⟩ := h4 hn
  have hlt := hc.lt hn
  have hne : b ≠ g' := by
    rcases h' with h | h
    · rw [h]; exact hl
    · rw [h]; exact Nat.ne_of_lt hlt
  refine ⟨b, off, e, fun i hi => ?_, hne⟩
  rw [World.cell?_of_block (w := w) (hg.block b hlt (by simp; exact hl))]
  exact hc i hi
theorem RepM.repN {B g : Nat} {w : World} {v : Value} {m : Nat} (h : RepM B w v m) (hg : g < B) : RepN g w v m := by
  obtain ⟨ao, c, h1, h2, h3, h4⟩ := h
  exact ⟨ao, c, h1, h2, h3, fun hn => let ⟨b, off, e, hc, _, hB⟩ := h4 hn; ⟨b, off, e, hc, by omega⟩⟩
theorem Rep.repN {w : World} {v : Value} {m : Nat} (h : Rep w v m) : RepN w.heap.size w v m := by
  obtain ⟨ao, c, h1, h2, h3, h4⟩ := h
  exact ⟨ao, c, h1, h2, h3, fun hn => let ⟨b, off, e, hc⟩ := h4 hn; ⟨b, off, e, hc, Nat.ne_of_lt (hc.lt hn)⟩⟩
theorem rep_one {w : World} {v : Value} {m : Nat} (h : Rep w v m) : v.oneCell' = true := by
  obtain ⟨ao, c, rfl, _⟩ := h
  rfl

theorem owns_below {B : Nat} {e : TypeId} {w w' : World} {v : Value} {n : Nat} {us : List Value} (h : w.ownsRow B e 1 v n us) (hb : Below w.heap.size w w') : w'.ownsRow B e 1 v n us := by
  refine ⟨h.1, ?_⟩
  rcases h.2 with hn | ⟨g, cap, cur, rfl, hB, hg, rest⟩
  · exact .inl hn
  · refine .inr ⟨g, cap, cur, rfl, hB, ?_, rest⟩
    rw [hb.block g (Array.getElem?_eq_some_iff.1 hg).1]
    exact hg

/-- How long the powers are. -/
theorem ten_nl0 : nl W32 (ten 0) = 30 := by
  unfold ten
  rw [nl_spec W32 _ 30 (by decide) (by decide +kernel)]
  decide +kernel
theorem nl_square (p : Nat) (hp : 2 ≤ nl W32 p) : nl W32 p + 1 ≤ nl W32 (p * p) ∧ 2 * nl W32 p ≤ nl W32 (p * p) + 1 ∧ nl W32 (p * p) ≤ 2 * nl W32 p := by
  have h1 := pow_le_of_nl W32 p (by omega)
  have h2 := lt_pow_nl W32 p (by decide)
  have h3 : W32 ^ (nl W32 p - 1 + (nl W32 p - 1)) ≤ p * p := by rw [Nat.pow_add]; exact Nat.mul_le_mul h1 h1
  have h4 : nl W32 (p * p) ≤ nl W32 p + nl W32 p := nl_le W32 _ _ (by decide) (by rw [Nat.pow_add]; exact Nat.mul_lt_mul_of_lt_of_lt h2 h2)
  have h5 := lt_pow_nl W32 (p * p) (by decide)
  have h6 : nl W32 p - 1 + (nl W32 p - 1) < nl W32 (p * p) := by
    by_cases g : nl W32 p - 1 + (nl W32 p - 1) < nl W32 (p * p)
    · exact g
    · have := Nat.pow_le_pow_right (n := W32) (by decide) (show nl W32 (p * p) ≤ nl W32 p - 1 + (nl W32 p - 1) by omega)
      omega
  omega
theorem ten_fits (t n : Nat) (h : ¬ 2 * nl W32 (ten t) - 1 ≤ n) (h2 : 2 ≤ nl W32 (ten t)) : W32 ^ n ≤ ten (t + 1) := by
  rw [← ten_succ]
  have h1 := pow_le_of_nl W32 (ten t) (by omega)
  have h3 : W32 ^ (nl W32 (ten t) - 1 + (nl W32 (ten t) - 1)) ≤ ten t * ten t := by rw [Nat.pow_add]; exact Nat.mul_le_mul h1 h1
  exact Nat.le_trans (Nat.pow_le_pow_right (by decide) (by omega)) h3
theorem ten_bound (t : Nat) : 2 ^ t ≤ nl W32 (ten t) := by
  have h := lt_pow_nl W32 (ten t) (by decide)
  have h1 : W32 ^ 2 ^ t ≤ ten t := by
    unfold ten
    rw [Nat.pow_mul]
    exact Nat.pow_le_pow_left (by decide +kernel) _
  by_cases g : 2 ^ t ≤ nl W32 (ten t)
  · exact g
  · have := Nat.pow_le_pow_right (n := W32) (by decide) (show nl W32 (ten t) ≤ 2 ^ t by omega)
    omega

theorem power_ten (u : Value) (w : World) (hu : Rep w u 10) :
    Calls Try.prog 65 #[u, .int .i64 288] w fun e w' => ∃ r, e = .returned r ∧ RepM w.heap.size w' r (ten 0) ∧ Below w.heap.size w w' := by
  have h : ∀ K : Nat, K = 288 * 2 ^ 0 → Calls Try.prog 65 #[u, .int .i64 (K : Int)] w fun e w' => ∃ r, e = .returned r ∧ RepM w.heap.size w' r (10 ^ K) ∧ Below w.heap.size w w' :=
    fun K hK => power_any u 10 K w hu (by omega) (Nat.le_trans (nl_le W32 10 1 (by decide) (by decide)) (by omega))
  have hT : ∀ K : Nat, K = 288 * 2 ^ 0 → 10 ^ K = ten 0 := fun K hK => by rw [hK]; unfold ten; rfl
  have hI : ∀ K : Nat, K = 288 * 2 ^ 0 → (K : Int) = 288 := fun K hK => by omega
  obtain ⟨K, hK⟩ : ∃ K : Nat, K = 288 * 2 ^ 0 := ⟨_, rfl⟩
  have h' := h K hK
  rw [hT K hK, hI K hK] at h'
  exact h'

def vlen : Value → Nat
  | .slice _ n _ => n
  | _ => 0

set_option maxRecDepth 20000 in
set_option maxHeartbeats 1000000 in
theorem blockTens_any (n : Nat) (w : World) (h30 : 30 ≤ n) (hn : n ≤ 10000) :
    Calls Try.prog 51 #[.int .i64 (n : Int)] w fun e w' => ∃ v, e = .returned v ∧ ∃ t, Tens w'.heap.size w' v (t + 1) ∧ t ≤ 13 ∧ W32 ^ n ≤ ten (t + 1) ∧ Below w.heap.size w w' := by
  have i1 : ¬ (n : Int) ≤ 29 := by omega
  go_enter Try.func51, Try.ntmps51
  go_wp2_with fail
  refine (of_any 10 _ (by omega) (by omega)).mono ?_
  rintro e w1 ⟨o1, rfl, ho1, hb1⟩
  have ho1' : Rep w1 o1 10 := Mine.nums ho1
  go_wp2_with fail
  refine (power_ten o1 _ ho1').mono ?_
  rintro e w2 ⟨p2, rfl, hp2, hb2⟩
  have hp2' : Rep w2 p2 (ten 0) := hp2.rep
  have hs1 := hb1.size
  have B2 : Below w.heap.size w w2 := hb1.trans (hb2.mono hs1)
  clear hp2 hb1 hb2 ho1 ho1'
  obtain ⟨a2, c2, rfl, hl2⟩ := rep_val hp2'
  have hN0 : Hid (nl W32 (ten 0) = 30) := ten_nl0
  have hown0 : (w2.alloc (.cells #[.slice a2 (nl W32 (ten 0)) c2] 29)).ownsRow w.heap.size 29 1 (.slice (some ⟨w2.heap.size, 0, none⟩) 1 1) 1 [.slice a2 (nl W32 (ten 0)) c2] :=
    ⟨rfl, .inr ⟨_, 1, _, rfl, B2.size, heap_alloc_new _ _, Nat.le_refl _, by unfold maxLen; omega, rfl, rfl⟩⟩
  have hel0 : RepN w2.heap.size (w2.alloc (.cells #[.slice a2 (nl W32 (ten 0)) c2] 29)) (.slice a2 (nl W32 (ten 0)) c2) (ten 0) := (Rep.repN hp2').below ((Below.refl _ _).alloc (Nat.le_refl _) _)
  have B3 : Below w.heap.size w (w2.alloc (.cells #[.slice a2 (nl W32 (ten 0)) c2] 29)) := B2.alloc B2.size _
  go_wp2
  go_loopw [3, 4] (fun vp vo wr => ∃ (t g cap : Nat) (us : List Value), vo = .slice (some ⟨g, 0, none⟩) (t + 1) cap ∧ t + 30 ≤ nl W32 (ten t) ∧ nl W32 (ten t) ≤ n + 1 ∧ wr.ownsRow w.heap.size 29 1 vo (t + 1) us ∧ us[t]? = some vp ∧ (∀ i, i < t + 1 → ∃ u, us[i]? = some u ∧ RepN g wr u (ten i)) ∧ Below w.heap.size w wr) (fun _ vo _ => n + 2 - vlen vo)
  case atStart =>
    refine ⟨0, w2.heap.size, 1, [.slice a2 (nl W32 (ten 0)) c2], rfl, by rw [hN0.out]; omega, by rw [hN0.out]; omega, hown0, rfl, fun i hi => ?_, B3⟩
    obtain rfl : i = 0 := by omega
    exact ⟨_, rfl, hel0⟩
  case round =>
    clear hown0 hel0 B3 hp2' hl2
    obtain ⟨t, g, cap, us, rfl, ht1, ht2, hown, hlast, hels, hbel⟩ := hrel
    obtain ⟨u, hu1, hu2⟩ := hels t (by omega)
    rw [hlast] at hu1
    cases hu1
    have hsq := nl_square (ten t) (by omega)
    rw [ten_succ] at hsq
    have hfit := ten_fits t n
    have hbd := ten_bound t
    have hur := hu2.rep
    have hsz := hbel.size
    have hgl := World.ownsRow.lt hown g rfl
    have hus : us.length = t + 1 := by have := hown.1; omega
    have HP : Hid (ProdAt (ten t) (ten t)) := product_all _ _ (by omega)
    obtain ⟨a3, c3, rfl, hl3⟩ := rep_val hur
    have hq1 : t + 1 + 30 ≤ nl W32 (ten (t + 1)) := by omega
    have hq2 : 2 * nl W32 (ten t) - 1 ≤ n → nl W32 (ten (t + 1)) ≤ n + 1 := by omega
    have HQ1 : Hid (t + 1 + 30 ≤ nl W32 (ten (t + 1))) := hq1
    have HQ2 : Hid (2 * nl W32 (ten t) - 1 ≤ n → nl W32 (ten (t + 1)) ≤ n + 1) := hq2
    have HF : Hid (¬ 2 * nl W32 (ten t) - 1 ≤ n → 2 ≤ nl W32 (ten t) → W32 ^ n ≤ ten (t + 1)) := hfit
    have HE : Hid (∀ i, i < t + 1 → ∃ u, us[i]? = some u ∧ RepN g wr u (ten i)) := hels
    have HR : Hid (Rep wr (.slice a3 (nl W32 (ten t)) c3) (ten t)) := hur
    clear hq1 hq2 hfit hsq hels hur hu2 hlast
    generalize nl W32 (ten t) = l at *
    by_cases hgo : 2 * l - 1 ≤ n
    · have j1 : 2 * (l : Int) - 1 ≤ (n : Int) := by omega
      go_wp2_with fail
      refine (HP.out _ _ _ HR.out HR.out).mono ?_
      rintro e w4 ⟨p4, rfl, hp40, hb4⟩
      have hp4 : RepM wr.heap.size w4 p4 (ten (t + 1)) := by rw [← ten_succ]; exact hp40
      have s4 := hb4.size
      obtain ⟨a4, c4, rfl, hl4⟩ := rep_val hp4.rep
      have hown4 := owns_below hown hb4
      have hN4 : RepN g w4 (.slice a4 (nl W32 (ten (t + 1))) c4) (ten (t + 1)) := hp4.repN hgl.2
      have HN4 : Hid (RepN g w4 (.slice a4 (nl W32 (ten (t + 1))) c4) (ten (t + 1))) := hN4
      have hall : Hid (∀ i, i < t + 2 → ∃ u, (us ++ [.slice a4 (nl W32 (ten (t + 1))) c4])[i]? = some u ∧ RepN g w4 u (ten i)) := by
        intro i hi
        by_cases hit : i < t + 1
        · obtain ⟨u, h1, h2⟩ := HE.out i hit
          exact ⟨u, by rw [List.getElem?_append_left (by omega)]; exact h1, h2.below hb4⟩
        · obtain rfl : i = t + 1 := by omega
          exact ⟨_, by rw [List.getElem?_append_right (by omega), hus]; simp, HN4.out⟩
      have hlst : Hid ((us ++ [.slice a4 (nl W32 (ten (t + 1))) c4])[t + 1]? = some (.slice a4 (nl W32 (ten (t + 1))) c4)) := by
        show _ = _
        rw [List.getElem?_append_right (by omega), hus]; simp
      have hbel4 : Below w.heap.size w w4 := hbel.trans (hb4.mono hsz)
      clear hp40 hp4 hN4 HE HR hown hb4 HP hbel
      have HQ3 : Hid (nl W32 (ten (t + 1)) ≤ n + 1) := HQ2.out hgo
      generalize hl4' : nl W32 (ten (t + 1)) = l4 at *
      have HL4 : Hid (nl W32 (ten (t + 1)) = l4) := hl4'
      clear hl4'
      go_wp2_with (at_builtin; refine wpList_append_one rfl _ _ rfl w.heap.size g (t + 1) cap us rfl (hown4.alloc _) ⟨w4.heap.size, 0, none⟩ 1 (.slice a4 l4 c4) rfl (cell_one_new _ _ _) rfl (by omega) (by simp; omega) ?_)
      intro g' cap' w5 hown5 hgrow hg'
      have hb5 : Below w.heap.size w w5 := (hbel4.alloc (by omega) _).grown hgrow (by simp; omega) (fun k e => by simp at e; omega)
      have hall5 : ∀ i, i < t + 1 + 1 → ∃ u, (us ++ [.slice a4 l4 c4])[i]? = some u ∧ RepN g' w5 u (ten i) := fun i hi => by
        obtain ⟨u, h1, h2⟩ := hall.out i hi
        exact ⟨u, h1, (h2.below ((Below.refl _ _).alloc (Nat.le_refl _) _)).grown hgrow (by simpa using hg')⟩
      clear hgrow hown4 HN4 hbel4
      go_wp2
      go_roundw
      case rel => exact ⟨t + 1, g', cap', _, rfl, by rw [HL4.out]; exact HQ1.out, by rw [HL4.out]; exact HQ3.out, hown5, hlst.out, hall5, hb5⟩
      case measure => simp [vlen]; omega
    · have j1 : ¬ 2 * (l : Int) - 1 ≤ (n : Int) := by omega
      have hfin := HF.out hgo (by omega)
      have ht13 : t ≤ 13 := by
        by_cases q : t ≤ 13
        · exact q
        · have : 2 ^ 14 ≤ 2 ^ t := Nat.pow_le_pow_right (by omega) (by omega)
          omega
      have hT : Tens wr.heap.size wr (.slice (some ⟨g, 0, none⟩) (t + 1) cap) (t + 1) := by
        have hcells := hown.cells (g := g) rfl
        have hcap : t + 1 ≤ cap := by
          rcases hown.2 with ⟨h0, _⟩ | ⟨_, _, _, he, _, _, hnc, _⟩
          · cases h0
          · cases he; exact hnc
        refine ⟨_, _, rfl, hcap, fun _ => ⟨_, _, rfl, hgl.2, fun i hi => ?_⟩⟩
        obtain ⟨u, h1, h2⟩ := HE.out i hi
        refine ⟨u, ?_, Rep.repB h2.rep⟩
        have := hcells i u h1
        have e : (⟨g, 0, none⟩ : Addr).add i = ⟨g, 0 + i, none⟩ := by unfold Addr.add; split <;> simp_all
        rw [e] at this
        exact this
      have HFIN : Hid (W32 ^ n ≤ ten (t + 1)) := hfin
      clear hown HE HR HF hfin hgo HQ1 HQ2
      go_wp2
      go_ret
      exact ⟨_, rfl, t, hT, ht13, HFIN.out, hbel⟩

end Go.Proofs.Ytlegcekklknjhaa

/-
  What nat.Print and nat.Digits answer of any number.
-/
namespace Go.Proofs.Ytlegcekklknjhaa
open Go.RowKit

set_option maxRecDepth 20000 in
set_option maxHeartbeats 1000000 in
theorem print_long (v : Value) (n : Nat) (f : Nat → Int) (w : World) (hv : Nums .u64 w v n f) (hf : U64 n f) (h29 : 29 < nl W32 (num f n)) (hn : n ≤ 10000) :
    Calls Try.prog 42 #[v] w fun e w' => e = .returned (.string (txt (num f n))) ∧ Below w.heap.size w w' := by
  obtain ⟨i0, hi, hz0, hz1, hz2⟩ := info_parts info_u8
  have hxl := lt_pow_nl W32 (num f n) (by decide)
  have hxn := nl_le W32 (num f n) n (by decide) (num_lt f n)
  generalize hx : num f n = x at *
  go_enter Try.func42, Try.ntmps42
  go_wp2_with fail
  refine (plain_any _ _ _ _ hv hf).mono ?_
  rintro e w1 ⟨v1, rfl, hv1, hb1⟩
  rw [hx] at hv1
  have hv1' : Rep w1 v1 x := hv1
  obtain ⟨ao, c, rfl, hl⟩ := rep_val hv1
  have HRX : Hid (Rep w1 (.slice ao (nl W32 x) c) x) := hv1'
  have HX9 : Hid (nl W32 x ≤ 900000) := by show _ ≤ _; omega
  clear hv1 hv1'
  generalize hla : nl W32 x = la at *
  go_wp2_with fail
  refine (blockTens_any la _ (by omega) (by omega)).mono ?_
  rintro e w2 ⟨vt, rfl, t, hT, ht, hfit, hb2⟩
  have hxW : Hid (x < 10 ^ (288 * 2 ^ (t + 1))) := by show x < ten (t + 1); omega
  have hw9 : 2 ^ (t + 1) ≤ 2 ^ 14 := Nat.pow_le_pow_right (by omega) (by omega)
  have hw1 : 0 < 2 ^ (t + 1) := Nat.two_pow_pos _
  have HWR : Hid (WritesAt (t + 1)) := writes_all (t + 1) (by omega)
  obtain ⟨W, hW⟩ : ∃ W, W = 288 * 2 ^ (t + 1) := ⟨_, rfl⟩
  have hWb : 9 ≤ W ∧ W ≤ 10000000 := by omega
  have HW : Hid (W = 288 * 2 ^ (t + 1)) := hW
  have hwr : wrap64 ((288 : Int) * 2 ^ (t + 1)) = (W : Int) := by
    have e : ((288 : Int) * 2 ^ (t + 1)) = (W : Int) := by rw [hW]; simp
    rw [e]; unfold wrap64; omega
  have hWm : W ≤ maxLen := by unfold maxLen; omega
  have hWa : i0.bytes * W ≤ 281474976710656 := by rw [hz2]; omega
  rw [← hW] at hxW
  have hT' := hT
  obtain ⟨bo, tc, rfl, htc, hT4⟩ := hT'
  clear hT4 hW hw9 hw1 hfit hxl
  go_wp2_with (at_make; refine wpList_make_full _ rfl _ _ 81 rfl _ 5 i0 (.int .u8 0) 1 Try.underlying81 hi hz0 hz1 .i64 .i64 (wrap64 ((288 : Int) * 2 ^ (t + 1))) (wrap64 ((288 : Int) * 2 ^ (t + 1))) W rfl rfl hwr hwr hWa hWm (Nat.le_refl _) ?_; intro w3 hown hgrow)
  clear hwr hWa hWm
  have hb3 := below_grown hgrow
  obtain ⟨hc3, hs3⟩ := mine_made (k := .u8) (w := w2) hown (fun _ => 0) (fun i hi => made_zero .u8 W i hi)
  clear hown hgrow
  have hlt3 := hc3.lt (by omega)
  have hT3 := hT.below hb3
  have hx3 := Nums.below (Nums.below HRX.out hb2) hb3
  have hWR := HWR.out
  unfold WritesAt at hWR
  rw [← HW.out] at hWR
  have hX9 : nl W32 x ≤ 900000 := by rw [hla]; exact HX9.out
  have HCALL : Hid (Calls Try.prog 52 #[.slice (some ⟨w2.heap.size, 0, none⟩) W W, .slice ao la c, .slice bo (t + 1) tc] w3 fun e w' =>
      e = .returned (.tuple #[]) ∧ Cells w' .u8 w2.heap.size 0 W (fun i => dd x (W - 1 - i)) ∧ UpdB w3.heap.size w3 w' w2.heap.size 0 W) :=
    hWR w2.heap.size 0 W w2.heap.size _ _ x _ w3 (Nat.le_refl _) hlt3 (Nat.le_refl _) hc3 hs3 hx3 hX9 hT3
  clear hWR HWR hT hT3 hx3 HRX hX9 HX9 hla HW
  refine (HCALL.out).mono ?_
  rintro e w4 ⟨rfl, hc4, hu4⟩
  have s1 := hb1.size
  have s2 := hb2.size
  have s3 := hb3.size
  have s4 := hu4.size
  have hbel : Below w.heap.size w w4 := hb1.trans ((hb2.mono s1).trans ((hb3.mono (by omega)).trans (hu4.below (by omega) (by omega))))
  clear hc3 hs3 hb3 hu4 HCALL
  go_wp2
  go_loop [6] (fun v => ∃ a : Nat, a < W ∧ v = .int .i64 (a : Int) ∧ ∀ i, i < a → dd x (W - 1 - i) = 48) (fun v => W - (intOf v).toNat)
  case atStart => exact ⟨0, by omega, rfl, fun i hi => by omega⟩
  case round =>
    obtain ⟨a, ha, rfl, hz⟩ := hrel
    have HZ : Hid (∀ i, i < a → dd x (W - 1 - i) = 48) := hz
    clear hz
    have hcell : w4.cell? ⟨w2.heap.size, a, none⟩ = some (.int .u8 (dd x (W - 1 - a))) := by have := hc4 a ha; rw [Nat.zero_add] at this; exact this
    have hconv := run_convert_bytes_arg (P := Try.prog) w4 81 5 Try.underlying81 Try.underlying5 w2.heap.size a (W - a) (W - a) (decs x (W - a)) (decs_length _ _)
      (fun i hi => by rw [decs_at _ _ _ hi]; have := hc4 (a + i) (by omega); rw [Nat.zero_add] at this; rw [show W - a - 1 - i = W - 1 - (a + i) by omega]; exact this) 9 Try.underlying9
    by_cases hlast : a + 1 < W
    · have hg : decide ((a : Int) < (W : Int) - 1) = true := by simp; omega
      by_cases h48 : dd x (W - 1 - a) = 48
      · have hbq : (dd x (W - 1 - a) == 48) = true := by simp [h48]
        have H48 : Hid (dd x (W - 1 - a) = 48) := h48
        clear h48
        go_wp2
        go_round
        case rel => exact ⟨a + 1, by omega, by go_num, fun i hi => by by_cases e : i = a; exact e ▸ H48.out; exact HZ.out i (by omega)⟩
        case measure => simp [intOf]; omega
      · have hbq : (dd x (W - 1 - a) == 48) = false := by simp [h48]
        go_wp2
        go_ret
        have hend := strip_end x W a hxW.out ha HZ.out (.inr h48)
        refine ⟨?_, hbel⟩
        show Ending.returned (.string (strOfNums (decs x (W - a)))) = _
        rw [hend]; rfl
    · have hg : decide ((a : Int) < (W : Int) - 1) = false := by simp; omega
      go_wp2
      go_ret
      have hend := strip_end x W a hxW.out ha HZ.out (.inl (by omega))
      refine ⟨?_, hbel⟩
      show Ending.returned (.string (strOfNums (decs x (W - a)))) = _
      rw [hend]; rfl

theorem print_any (v : Value) (n : Nat) (f : Nat → Int) (w : World) (hv : Nums .u64 w v n f) (hf : U64 n f) (hn : n ≤ 10000) :
    Calls Try.prog 42 #[v] w fun e w' => e = .returned (.string (txt (num f n))) ∧ Below w.heap.size w w' := by
  by_cases h : nl W32 (num f n) ≤ 29
  · exact print_short v n f w hv hf h
  · exact print_long v n f w hv hf (by omega) hn

theorem txt_size (x : Nat) : (txt x).size = ndec x := by
  unfold txt strOfNums
  simp [ByteArray.size, decs_length]

end Go.Proofs.Ytlegcekklknjhaa

/-
  What whole.Of, To, Cmp, Print answer.
-/
namespace Go.Proofs.Ytlegcekklknjhaa
open Go.RowKit

theorem zof_of_neg (k : Int) (h : k < 0) : zof true (-k).toNat = k := by rw [zof_true]; omega
theorem zof_of_pos (k : Int) (h : 0 ≤ k) : zof false k.toNat = k := by rw [zof_false]; omega

set_option maxRecDepth 20000 in
set_option maxHeartbeats 400000 in
theorem wof_any (k : Int) (w : World) (h0 : -9223372036854775808 ≤ k) (h1 : k ≤ 9223372036854775807) :
    Calls Try.prog 27 #[.int .i64 k] w fun e w' => ∃ r, e = .returned r ∧ RepI w' r k ∧ Below w.heap.size w w' := by
  have hA : ∀ o, Below w.heap.size w (w.alloc o) := fun o => (Below.refl _ _).alloc (Nat.le_refl _) _
  by_cases hk : k < 0
  · have e1 : IntKind.u64.wrap k = k + 18446744073709551616 := by rw [IntKind.wrap_u64]; omega
    have e2 : IntKind.u64.wrap (-(k + 18446744073709551616)) = -k := by rw [IntKind.wrap_u64]; omega
    go_enter Try.func27, Try.ntmps27
    go_wp2_with fail
    refine (of_any _ _ (by omega) (by omega)).mono ?_
    rintro e w1 ⟨s, rfl, hs, hb1⟩
    have hk1 := keepW hb1 (by simp) (resW w _ _ _)
    have B1 := (hA _).trans (hb1.mono (by simp))
    go_wp2_with fail
    refine (signed_any _ _ _ _ hs.nums).mono ?_
    rintro e w2 ⟨r, rfl, hr, hb2⟩
    obtain ⟨b2, ao2, n2, c2, rfl⟩ := hr.open
    obtain ⟨q1, q2, q3, q4⟩ := keepW hb2 (Nat.le_refl _) hk1
    go_wp2
    (try simp only [Exit.inBlock, Exit.then])
    refine bodyPost_ret (v := .agg #[.bool b2, .slice ao2 n2 c2]) (by simp [results, go_sem, q1, q2]) rfl ?_
    have B2 := B1.trans (hb2.mono B1.size)
    rw [zof_of_neg k hk] at hr
    exact ⟨_, rfl, hr.store2 q1 q2 _ _, below_store2 B2 (by omega) _ _⟩
  · have e1 : IntKind.u64.wrap k = k := by rw [IntKind.wrap_u64]; omega
    go_enter Try.func27, Try.ntmps27
    go_wp2_with fail
    refine (of_any _ _ (by omega) (by omega)).mono ?_
    rintro e w1 ⟨s, rfl, hs, hb1⟩
    have hk1 := keepW hb1 (by simp) (resW w _ _ _)
    have B1 := (hA _).trans (hb1.mono (by simp))
    go_wp2_with fail
    refine (signed_any _ _ _ _ hs.nums).mono ?_
    rintro e w2 ⟨r, rfl, hr, hb2⟩
    obtain ⟨b2, ao2, n2, c2, rfl⟩ := hr.open
    obtain ⟨q1, q2, q3, q4⟩ := keepW hb2 (Nat.le_refl _) hk1
    go_wp2
    (try simp only [Exit.inBlock, Exit.then])
    refine bodyPost_ret (v := .agg #[.bool b2, .slice ao2 n2 c2]) (by simp [results, go_sem, q1, q2]) rfl ?_
    have B2 := B1.trans (hb2.mono B1.size)
    rw [zof_of_pos k (by omega)] at hr
    exact ⟨_, rfl, hr.store2 q1 q2 _ _, below_store2 B2 (by omega) _ _⟩

theorem toV_num (f : Nat → Int) (n : Nat) (h : sz (lo f) n ≤ 2) : toV f n = (num f n : Int) := by
  have hv := num_val f n
  rw [val_sz] at hv
  unfold toV
  rw [if_pos h]
  have key : ∀ i, at0 f n i % 4294967296 = if i < n then lo f i else 0 := by
    intro i; unfold at0 lo; split <;> simp
  have hz : ∀ i, sz (lo f) n ≤ i → (if i < n then lo f i else 0) = 0 := by
    intro i hi
    by_cases g : i < n
    · rw [if_pos g]; exact sz_above (lo f) n i hi g
    · rw [if_neg g]
  have hle := sz_le (lo f) n
  rw [key 1, key 0]
  rcases (show sz (lo f) n = 0 ∨ sz (lo f) n = 1 ∨ sz (lo f) n = 2 by omega) with e | e | e
  · rw [hz 0 (by omega), hz 1 (by omega)]
    rw [e] at hv; simp [val] at hv; omega
  · rw [hz 1 (by omega), if_pos (show 0 < n by omega)]
    rw [e] at hv; simp [val] at hv; omega
  · rw [if_pos (show 0 < n by omega), if_pos (show 1 < n by omega)]
    rw [e] at hv; simp [val] at hv; omega
theorem nl_two (x : Nat) : nl W32 x ≤ 2 ↔ x < 18446744073709551616 := by
  constructor
  · intro h
    have h1 := lt_pow_nl W32 x (by decide)
    have h2 : W32 ^ nl W32 x ≤ W32 ^ 2 := Nat.pow_le_pow_right (by decide) h
    unfold W32 at *; omega
  · intro h; exact nl_le W32 x 2 (by decide) (by unfold W32; omega)

/-- Is a number small? -/
def fitsB (z : Int) : Bool := decide (-9223372036854775808 ≤ z ∧ z ≤ 9223372036854775807)
/-- The number as a small one; 0, if it is not. -/
def toI (z : Int) : Int := if fitsB z = true then z else 0

/-- A number's text. -/
def ztxt (z : Int) : ByteArray := if z < 0 then { data := #[45] } ++ txt z.natAbs else txt z.natAbs

theorem ndec_le (x n : Nat) (h : x < W32 ^ n) : ndec x ≤ 10 * n + 1 := by
  have h1 : W32 ^ n ≤ 10 ^ (10 * n) := by rw [Nat.pow_mul]; exact Nat.pow_le_pow_left (by decide) n
  have h2 := nl_le 10 x (10 * n) (by omega) (by omega)
  unfold ndec; split <;> omega

set_option maxRecDepth 20000 in
set_option maxHeartbeats 1000000 in
theorem wprint_any (v : Value) (z : Int) (L : Nat) (w : World) (h : IntAt w v z L) (hL : L ≤ 10000) :
    Calls Try.prog 28 #[v] w fun e w' => e = .returned (.string (ztxt z)) ∧ Below w.heap.size w w' := by
  obtain ⟨neg, ao, n, c, f, rfl, h, hf, rfl, hn⟩ := h
  have hA : ∀ o, Below w.heap.size w (w.alloc o) := fun o => (Below.refl _ _).alloc (Nat.le_refl _) _
  obtain ⟨c1, c2, _, _⟩ := resW w 31 (.bool neg) (.slice ao n c)
  go_enter Try.func28, Try.ntmps28
  go_wp2_with fail
  refine (sign_any _ (zof neg (num f n)) L _ ⟨_, _, _, _, _, rfl, h.below (hA _), hf, rfl, hn⟩).mono ?_
  rintro e w1 ⟨rfl, hb1⟩
  obtain ⟨d1, d2⟩ := keep2 hb1 (by simp) ⟨c1, c2⟩
  have B1 := (hA _).trans (hb1.mono (by simp))
  clear c1 c2
  by_cases hz : zof neg (num f n) < 0
  · rw [cmpI_lt hz]
    go_wp2_with fail
    refine (print_any _ _ _ _ (h.below B1) hf (by omega)).mono ?_
    rintro e w2 ⟨rfl, hb2⟩
    have HZ : Hid (ztxt (zof neg (num f n)) = { data := #[45] } ++ txt (num f n)) := by show _ = _; unfold ztxt; rw [if_pos hz, zof_abs]
    clear hz
    have hts : (txt (num f n)).size ≤ 1000000 := by
      rw [txt_size]; have := ndec_le _ _ (num_lt f n); omega
    generalize hT : txt (num f n) = T at *
    go_wp2
    go_ret
    exact ⟨by rw [HZ.out]; rfl, B1.trans (hb2.mono B1.size)⟩
  · have hc : ¬ cmpI (zof neg (num f n)) 0 < 0 := by unfold cmpI; rw [if_neg hz]; split <;> omega
    have HZ : Hid (ztxt (zof neg (num f n)) = txt (num f n)) := by show _ = _; unfold ztxt; rw [if_neg hz, zof_abs]
    clear hz
    generalize cmpI (zof neg (num f n)) 0 = C at *
    go_wp2_with fail
    refine (print_any _ _ _ _ (h.below B1) hf (by omega)).mono ?_
    rintro e w2 ⟨rfl, hb2⟩
    go_wp2
    go_ret
    exact ⟨by rw [HZ.out]; rfl, B1.trans (hb2.mono B1.size)⟩

theorem cmp_sign {x y : Int} (h : ¬ cmpI x 0 = cmpI y 0) : cmpI (cmpI x 0) (cmpI y 0) = cmpI x y := by
  unfold cmpI at *; repeat' split <;> simp_all <;> omega

end Go.Proofs.Ytlegcekklknjhaa

/-
  What whole.DivMod answers.
-/
namespace Go.Proofs.Ytlegcekklknjhaa
open Go.RowKit
set_option linter.unusedVariables false

theorem nl_mono (B x y : Nat) (hB : 2 ≤ B) (h : x ≤ y) : nl B x ≤ nl B y := nl_le B x _ hB (Nat.lt_of_le_of_lt h (lt_pow_nl B y hB))
theorem nl_one : nl W32 1 ≤ 1 := nl_le W32 1 1 (by decide) (by decide)

theorem floor_pos {x y q r : Int} (h : x = y * q + r) (hy : 0 < y) (h0 : 0 ≤ r) (h1 : r < y) : q = x.fdiv y ∧ r = x.fmod y := by
  have e1 : x / y = q ∧ x % y = r := (Int.ediv_emod_unique hy).2 ⟨by rw [Int.add_comm]; exact h.symm, h0, h1⟩
  rw [Int.fdiv_eq_ediv_of_nonneg _ (by omega), Int.fmod_eq_emod_of_nonneg _ (by omega)]
  exact ⟨e1.1.symm, e1.2.symm⟩
theorem floor_neg {x y q r : Int} (h : x = y * q + r) (hy : y < 0) (h0 : r ≤ 0) (h1 : y < r) : q = x.fdiv y ∧ r = x.fmod y := by
  have e := floor_pos (x := -x) (y := -y) (q := q) (r := -r) (by rw [h, Int.neg_mul]; omega) (by omega) (by omega) (by omega)
  have e1 : q = x.fdiv y := by rw [e.1, Int.neg_fdiv_neg]
  refine ⟨e1, ?_⟩
  have e2 := Int.mul_fdiv_add_fmod x y
  rw [← e1] at e2; omega

theorem floor_same (p : Bool) (X Y : Nat) (hY : 0 < Y) : (zof p X).fdiv (zof p Y) = zof false (X / Y) ∧ (zof p X).fmod (zof p Y) = zof p (X % Y) := by
  have h1 := Nat.div_add_mod X Y
  have h2 := Nat.mod_lt X hY
  have h3 : (X : Int) = (Y : Int) * ((X / Y : Nat) : Int) + ((X % Y : Nat) : Int) := by rw [← Int.natCast_mul]; omega
  generalize X / Y = Q at *
  generalize X % Y = R at *
  cases p with
  | false =>
    simp only [zof_false]
    have := floor_pos h3 (by omega) (by omega) (by omega)
    exact ⟨this.1.symm, this.2.symm⟩
  | true =>
    simp only [zof_true, zof_false]
    have := floor_neg (x := -(X : Int)) (y := -(Y : Int)) (q := Q) (r := -(R : Int)) (by rw [h3, Int.neg_mul]; omega) (by omega) (by omega) (by omega)
    exact ⟨this.1.symm, this.2.symm⟩
theorem floor_even (p : Bool) (X Y : Nat) (hY : 0 < Y) (hR : X % Y = 0) : (zof p X).fdiv (zof (!p) Y) = zof true (X / Y) ∧ (zof p X).fmod (zof (!p) Y) = 0 := by
  have h1 := Nat.div_add_mod X Y
  have h3 : (X : Int) = (Y : Int) * ((X / Y : Nat) : Int) := by rw [← Int.natCast_mul]; omega
  generalize X / Y = Q at *
  cases p with
  | false =>
    simp only [zof_false, Bool.not_false, zof_true]
    have := floor_neg (x := (X : Int)) (y := -(Y : Int)) (q := -(Q : Int)) (r := 0) (by rw [h3, Int.neg_mul_neg]; omega) (by omega) (by omega) (by omega)
    exact ⟨this.1.symm, this.2.symm⟩
  | true =>
    simp only [zof_true, Bool.not_true, zof_false]
    have := floor_pos (x := -(X : Int)) (y := (Y : Int)) (q := -(Q : Int)) (r := 0) (by rw [h3, Int.mul_neg]; omega) (by omega) (by omega) (by omega)
    exact ⟨this.1.symm, this.2.symm⟩
theorem floor_odd (p : Bool) (X Y : Nat) (hY : 0 < Y) (hR : X % Y ≠ 0) : (zof p X).fdiv (zof (!p) Y) = zof true (X / Y + 1) ∧ (zof p X).fmod (zof (!p) Y) = zof (!p) (Y - X % Y) := by
  have h1 := Nat.div_add_mod X Y
  have h2 := Nat.mod_lt X hY
  have h3 : (X : Int) = (Y : Int) * ((X / Y : Nat) : Int) + ((X % Y : Nat) : Int) := by rw [← Int.natCast_mul]; omega
  generalize X / Y = Q at *
  generalize X % Y = R at *
  cases p with
  | false =>
    simp only [zof_false, Bool.not_false, zof_true]
    have := floor_neg (x := (X : Int)) (y := -(Y : Int)) (q := -((Q + 1 : Nat) : Int)) (r := -((Y - R : Nat) : Int)) (by rw [h3, Int.neg_mul_neg, Int.natCast_add, Int.mul_add]; omega) (by omega) (by omega) (by omega)
    exact ⟨this.1.symm, this.2.symm⟩
  | true =>
    simp only [zof_true, Bool.not_true, zof_false]
    have := floor_pos (x := -(X : Int)) (y := (Y : Int)) (q := -((Q + 1 : Nat) : Int)) (r := ((Y - R : Nat) : Int)) (by rw [h3, Int.mul_neg, Int.natCast_add, Int.mul_add]; omega) (by omega) (by omega) (by omega)
    exact ⟨this.1.symm, this.2.symm⟩

/-- Two variables for structs laid behind two others. -/
theorem res34 (w : World) (o o' : Obj) (t t' : TypeId) (x y x' y' : Value) :
    ((((w.alloc o).alloc o').alloc (.cells #[x, y] t)).alloc (.cells #[x', y'] t')).cell? ⟨w.heap.size + 1 + 1, 0, none⟩ = some x ∧
    ((((w.alloc o).alloc o').alloc (.cells #[x, y] t)).alloc (.cells #[x', y'] t')).cell? ⟨w.heap.size + 1 + 1, 1, none⟩ = some y ∧
    ((((w.alloc o).alloc o').alloc (.cells #[x, y] t)).alloc (.cells #[x', y'] t')).frozen? ⟨w.heap.size + 1 + 1, 0, none⟩ = false ∧
    ((((w.alloc o).alloc o').alloc (.cells #[x, y] t)).alloc (.cells #[x', y'] t')).frozen? ⟨w.heap.size + 1 + 1, 1, none⟩ = false := by
  refine keepW (B := w.heap.size + 1 + 1 + 1) ((Below.refl _ _).alloc (by simp) _) (by simp) (res2 w o o' t x y)
theorem res4 (w : World) (o o' o'' : Obj) (t : TypeId) (x y : Value) :
    ((((w.alloc o).alloc o').alloc o'').alloc (.cells #[x, y] t)).cell? ⟨w.heap.size + 1 + 1 + 1, 0, none⟩ = some x ∧ ((((w.alloc o).alloc o').alloc o'').alloc (.cells #[x, y] t)).cell? ⟨w.heap.size + 1 + 1 + 1, 1, none⟩ = some y ∧
    ((((w.alloc o).alloc o').alloc o'').alloc (.cells #[x, y] t)).frozen? ⟨w.heap.size + 1 + 1 + 1, 0, none⟩ = false ∧ ((((w.alloc o).alloc o').alloc o'').alloc (.cells #[x, y] t)).frozen? ⟨w.heap.size + 1 + 1 + 1, 1, none⟩ = false := by
  have h := resW (((w.alloc o).alloc o').alloc o'') t x y
  rw [World.size_alloc, World.size_alloc, World.size_alloc] at h; exact h


theorem box_b (w : World) (t t' : TypeId) (p q p' q' : Value) (o o' : Obj) :
    ((((w.alloc (.cells #[p, q] t)).alloc (.cells #[p', q'] t')).alloc o).alloc o').cell? ⟨w.heap.size, 0, none⟩ = some p ∧
    ((((w.alloc (.cells #[p, q] t)).alloc (.cells #[p', q'] t')).alloc o).alloc o').cell? ⟨w.heap.size, 1, none⟩ = some q ∧
    ((((w.alloc (.cells #[p, q] t)).alloc (.cells #[p', q'] t')).alloc o).alloc o').cell? ⟨w.heap.size + 1, 0, none⟩ = some p' ∧
    ((((w.alloc (.cells #[p, q] t)).alloc (.cells #[p', q'] t')).alloc o).alloc o').cell? ⟨w.heap.size + 1, 1, none⟩ = some q' := by
  have h0 := resW w t p q
  have h1 := res1 w (.cells #[p, q] t) t' p' q'
  have b1 : Below (w.heap.size + 1) (w.alloc (.cells #[p, q] t)) ((((w.alloc (.cells #[p, q] t)).alloc (.cells #[p', q'] t')).alloc o).alloc o') :=
    (((Below.refl _ _).alloc (by simp) _).alloc (by simp) _).alloc (by simp <;> omega) _
  have b2 : Below (w.heap.size + 1 + 1) ((w.alloc (.cells #[p, q] t)).alloc (.cells #[p', q'] t')) ((((w.alloc (.cells #[p, q] t)).alloc (.cells #[p', q'] t')).alloc o).alloc o') :=
    ((Below.refl _ _).alloc (by simp) _).alloc (by simp) _
  have k0 := keep2 b1 (by simp) ⟨h0.1, h0.2.1⟩
  have k1 := keep2 b2 (by simp) ⟨h1.1, h1.2.1⟩
  exact ⟨k0.1, k0.2, k1.1, k1.2⟩

/-- Two answers stored. -/
theorem RepI.store4 {w : World} {v : Value} {z : Int} (h : RepI w v z) {R R' m c m' c' : Nat} {p p' : Bool} {ao ao' : Option Addr} (q1 : w.cell? ⟨R, 0, none⟩ = some (.bool p)) (q2 : w.cell? ⟨R, 1, none⟩ = some (.slice ao m c))
    (q3 : w.cell? ⟨R', 0, none⟩ = some (.bool p')) (q4 : w.cell? ⟨R', 1, none⟩ = some (.slice ao' m' c')) (hne : R' ≠ R) (x y x' y' : Value) :
    RepI ((((w.setCell ⟨R, 0, none⟩ x).setCell ⟨R, 1, none⟩ y).setCell ⟨R', 0, none⟩ x').setCell ⟨R', 1, none⟩ y') v z := by
  have a1 : ((w.setCell ⟨R, 0, none⟩ x).setCell ⟨R, 1, none⟩ y).cell? ⟨R', 0, none⟩ = some (.bool p') := by
    rw [World.cell?_setCell_other _ _ _ _ (fun e => by injection e; omega), World.cell?_setCell_other _ _ _ _ (fun e => by injection e; omega)]; exact q3
  have a2 : ((w.setCell ⟨R, 0, none⟩ x).setCell ⟨R, 1, none⟩ y).cell? ⟨R', 1, none⟩ = some (.slice ao' m' c') := by
    rw [World.cell?_setCell_other _ _ _ _ (fun e => by injection e; omega), World.cell?_setCell_other _ _ _ _ (fun e => by injection e; omega)]; exact q4
  exact (h.store2 q1 q2 x y).store2 a1 a2 x' y'

/-- What DivMod answers where there is a quotient. -/
def DivOut (x y : Int) (B : Nat) (w : World) (e : Ending) (w' : World) : Prop :=
  ∃ q r, e = .returned (.tuple #[q, r, .int .i64 0]) ∧ RepI w' q (x.fdiv y) ∧ RepI w' r (x.fmod y) ∧ Below B w w'

set_option maxRecDepth 20000 in
set_option maxHeartbeats 2000000 in
theorem wdiv_zero (p q : Bool) (ao : Option Addr) (n c : Nat) (f : Nat → Int) (bo : Option Addr) (m d : Nat) (g : Nat → Int) (w : World)
    (hu : Nums .u64 w (.slice ao n c) n f) (hf : U64 n f) (hv : Nums .u64 w (.slice bo m d) m g) (hg : U64 m g) (h0 : num g m = 0) :
    Calls Try.prog 26 #[.agg #[.bool p, .slice ao n c], .agg #[.bool q, .slice bo m d]] w fun e w' => ∃ q r, e = .returned (.tuple #[q, r, .int .i64 2]) ∧ RepI w' q 0 ∧ RepI w' r 0 ∧ Below w.heap.size w w' := by
  have hA : ∀ o o' o'' o3, Below w.heap.size w ((((w.alloc o).alloc o').alloc o'').alloc o3) := fun o o' o'' o3 => ((((Below.refl _ _).alloc (Nat.le_refl _) _).alloc (by simp) _).alloc (by simp; omega) _).alloc (by simp; omega) _
  have ne1 : ¬ w.heap.size = w.heap.size + 1 + 1 := by omega
  have ne2 : ¬ w.heap.size + 1 + 1 = w.heap.size := by omega
  have ne3 : ¬ w.heap.size = w.heap.size + 1 + 1 + 1 := by omega
  have ne4 : ¬ w.heap.size + 1 + 1 + 1 = w.heap.size := by omega
  have ne5 : ¬ w.heap.size + 1 = w.heap.size + 1 + 1 + 1 := by omega
  have ne6 : ¬ w.heap.size + 1 + 1 + 1 = w.heap.size + 1 := by omega
  obtain ⟨c1, c2, c3, c4⟩ := box_b w 31 31 (.bool p) (.slice ao n c) (.bool q) (.slice bo m d) (.cells #[.bool false, .slice none 0 0] 31) (.cells #[.bool false, .slice none 0 0] 31)
  go_enter Try.func26, Try.ntmps26
  go_wp2_with fail
  refine (divMod_zero _ _ _ _ _ (hv.below (hA _ _ _ _)) hg h0).mono ?_
  rintro e w0 ⟨rfl, hw⟩
  subst hw
  go_wp2
  (try simp only [Exit.inBlock, Exit.then])
  refine bodyPost_ret (v := .tuple #[.agg #[.bool false, .slice none 0 0], .agg #[.bool false, .slice none 0 0], .int .i64 2]) (by simp [results, go_sem]) rfl ?_
  exact ⟨_, _, rfl, RepI.nil _, RepI.nil _, hA _ _ _ _⟩

set_option maxRecDepth 20000 in
set_option maxHeartbeats 2000000 in
theorem wdiv_same (p : Bool) (ao : Option Addr) (n c : Nat) (f : Nat → Int) (bo : Option Addr) (m d : Nat) (g : Nat → Int) (w : World)
    (hu : Nums .u64 w (.slice ao n c) n f) (hf : U64 n f) (hv : Nums .u64 w (.slice bo m d) m g) (hg : U64 m g) (h0 : num g m ≠ 0) (hl : nl W32 (num f n) ≤ 999999) :
    Calls Try.prog 26 #[.agg #[.bool p, .slice ao n c], .agg #[.bool p, .slice bo m d]] w fun e w' => DivOut (zof p (num f n)) (zof p (num g m)) w.heap.size w e w' := by
  have hA : ∀ o o' o'' o3, Below w.heap.size w ((((w.alloc o).alloc o').alloc o'').alloc o3) := fun o o' o'' o3 => ((((Below.refl _ _).alloc (Nat.le_refl _) _).alloc (by simp) _).alloc (by simp; omega) _).alloc (by simp; omega) _
  have ne1 : ¬ w.heap.size = w.heap.size + 1 + 1 := by omega
  have ne2 : ¬ w.heap.size + 1 + 1 = w.heap.size := by omega
  have ne3 : ¬ w.heap.size = w.heap.size + 1 + 1 + 1 := by omega
  have ne4 : ¬ w.heap.size + 1 + 1 + 1 = w.heap.size := by omega
  have ne5 : ¬ w.heap.size + 1 = w.heap.size + 1 + 1 + 1 := by omega
  have ne6 : ¬ w.heap.size + 1 + 1 + 1 = w.heap.size + 1 := by omega
  obtain ⟨c1, c2, c3, c4⟩ := box_b w 31 31 (.bool p) (.slice ao n c) (.bool p) (.slice bo m d) (.cells #[.bool false, .slice none 0 0] 31) (.cells #[.bool false, .slice none 0 0] 31)
  go_enter Try.func26, Try.ntmps26
  go_wp2_with fail
  refine (divMod_of _ _ _ _ _ _ _ (hu.below (hA _ _ _ _)) (hv.below (hA _ _ _ _)) hf hg h0 (divide_any _ _ (by omega) hl)).mono ?_
  rintro e w0 ⟨qv, rv, rfl, hqv, hrv, hb0⟩
  have hj0 := keepW hb0 (by simp) (res34 w _ _ _ _ _ _ _ _)
  have hk0 := keepW hb0 (by simp) (res4 w _ _ _ _ _ _)
  obtain ⟨d1, d2, d3, d4⟩ := keep4 hb0 (by simp) ⟨c1, c2, c3, c4⟩
  have B0 : Below w.heap.size w w0 := (hA _ _ _ _).trans (hb0.mono (by simp; omega))
  clear c1 c2 c3 c4
  go_wp2
  go_region_held3 (fun w' => w'.cell? ⟨w.heap.size, 0, none⟩ = some (.bool p) ∧ w'.cell? ⟨w.heap.size, 1, none⟩ = some (.slice ao n c) ∧ w'.cell? ⟨w.heap.size + 1, 0, none⟩ = some (.bool p) ∧ w'.cell? ⟨w.heap.size + 1, 1, none⟩ = some (.slice bo m d)) (first | exact keep4 (by assumption) (by simp) (by assumption) | go_keep) (first
    | (go_at_call_of 31 qv; refine (signed_any false _ _ _ (hqv.nums.below (Below.refl _ w0).drew)).mono ?_; rintro e w1 ⟨r1, rfl, hr1, hb1⟩; obtain ⟨b1, ao1, n1, e1, rfl⟩ := hr1.open; have hj1 := keepW hb1 (Nat.le_refl _) hj0; have hk1 := keepW hb1 (Nat.le_refl _) hk0)
    | (go_at_call_of 31 rv; refine (signed_any p _ _ _ ((hrv.nums.below (Below.refl _ w0).drew).below hb1)).mono ?_; rintro e w2 ⟨r2, rfl, hr2, hb2⟩; obtain ⟨b2, ao2, n2, e2, rfl⟩ := hr2.open; obtain ⟨q1, q2, q3, q4⟩ := keepW hb2 (Nat.le_refl _) hj1; obtain ⟨q5, q6, q7, q8⟩ := keepW hb2 (Nat.le_refl _) hk1))
  go_wp2
  (try simp only [Exit.inBlock, Exit.then])
  refine bodyPost_ret (v := .tuple #[.agg #[.bool b1, .slice ao1 n1 e1], .agg #[.bool b2, .slice ao2 n2 e2], .int .i64 0]) (by simp [results, go_sem, q1, q2, q5, q6]) rfl ?_
  have B1 := B0.drew.trans (hb1.mono B0.size)
  have B2 := B1.trans (hb2.mono B1.size)
  have hfl := floor_same p (num f n) (num g m) (by omega)
  refine ⟨_, _, rfl, ?_, ?_, below_store2 (below_store2 B2 (by omega) _ _) (by omega) _ _⟩
  · rw [hfl.1]; exact (hr1.below hb2).store4 q1 q2 q5 q6 (by omega) _ _ _ _
  · rw [hfl.2]; exact hr2.store4 q1 q2 q5 q6 (by omega) _ _ _ _

set_option maxRecDepth 20000 in
set_option maxHeartbeats 2000000 in
theorem wdiv_even (p : Bool) (ao : Option Addr) (n c : Nat) (f : Nat → Int) (bo : Option Addr) (m d : Nat) (g : Nat → Int) (w : World)
    (hu : Nums .u64 w (.slice ao n c) n f) (hf : U64 n f) (hv : Nums .u64 w (.slice bo m d) m g) (hg : U64 m g) (h0 : num g m ≠ 0) (hl : nl W32 (num f n) ≤ 999999) (hR : num f n % num g m = 0) :
    Calls Try.prog 26 #[.agg #[.bool p, .slice ao n c], .agg #[.bool (!p), .slice bo m d]] w fun e w' => DivOut (zof p (num f n)) (zof (!p) (num g m)) w.heap.size w e w' := by
  have hA : ∀ o o' o'' o3, Below w.heap.size w ((((w.alloc o).alloc o').alloc o'').alloc o3) := fun o o' o'' o3 => ((((Below.refl _ _).alloc (Nat.le_refl _) _).alloc (by simp) _).alloc (by simp; omega) _).alloc (by simp; omega) _
  have ne1 : ¬ w.heap.size = w.heap.size + 1 + 1 := by omega
  have ne2 : ¬ w.heap.size + 1 + 1 = w.heap.size := by omega
  have ne3 : ¬ w.heap.size = w.heap.size + 1 + 1 + 1 := by omega
  have ne4 : ¬ w.heap.size + 1 + 1 + 1 = w.heap.size := by omega
  have ne5 : ¬ w.heap.size + 1 = w.heap.size + 1 + 1 + 1 := by omega
  have ne6 : ¬ w.heap.size + 1 + 1 + 1 = w.heap.size + 1 := by omega
  have hpq : (p == !p) = false := by cases p <;> rfl
  obtain ⟨c1, c2, c3, c4⟩ := box_b w 31 31 (.bool p) (.slice ao n c) (.bool (!p)) (.slice bo m d) (.cells #[.bool false, .slice none 0 0] 31) (.cells #[.bool false, .slice none 0 0] 31)
  have hfl : Hid (_ ∧ _) := floor_even p (num f n) (num g m) (by omega) hR
  generalize hq : (!p) = q at *
  go_enter Try.func26, Try.ntmps26
  go_wp2_with fail
  refine (divMod_of _ _ _ _ _ _ _ (hu.below (hA _ _ _ _)) (hv.below (hA _ _ _ _)) hf hg h0 (divide_any _ _ (by omega) hl)).mono ?_
  rintro e w0 ⟨qv, rv, rfl, hqv, hrv, hb0⟩
  have hj0 := keepW hb0 (by simp) (res34 w _ _ _ _ _ _ _ _)
  have hk0 := keepW hb0 (by simp) (res4 w _ _ _ _ _ _)
  obtain ⟨d1, d2, d3, d4⟩ := keep4 hb0 (by simp) ⟨c1, c2, c3, c4⟩
  have B0 : Below w.heap.size w w0 := (hA _ _ _ _).trans (hb0.mono (by simp; omega))
  clear c1 c2 c3 c4 hq
  go_wp2_with fail
  refine (nat_zero_rep hrv.rep).mono ?_
  rintro e w1 ⟨rfl, hw⟩
  subst hw
  rw [decide_eq_true hR]
  go_wp2_with fail
  refine (signed_any true _ _ _ hqv.nums).mono ?_
  rintro e w1 ⟨r1, rfl, hr1, hb1⟩
  obtain ⟨b1, ao1, n1, e1, rfl⟩ := hr1.open
  obtain ⟨q1, q2, q3, q4⟩ := keepW hb1 (Nat.le_refl _) hj0
  obtain ⟨q5, q6, q7, q8⟩ := keepW hb1 (Nat.le_refl _) hk0
  go_wp2
  (try simp only [Exit.inBlock, Exit.then])
  refine bodyPost_ret (v := .tuple #[.agg #[.bool b1, .slice ao1 n1 e1], .agg #[.bool false, .slice none 0 0], .int .i64 0]) (by simp [results, go_sem, q1, q2, q5, q6]) rfl ?_
  have B1 := B0.trans (hb1.mono B0.size)
  refine ⟨_, _, rfl, ?_, ?_, below_store2 (below_store2 B1 (by omega) _ _) (by omega) _ _⟩
  · rw [hfl.out.1]; exact hr1.store4 q1 q2 q5 q6 (by omega) _ _ _ _
  · rw [hfl.out.2]; exact RepI.nil _

set_option maxRecDepth 20000 in
set_option maxHeartbeats 2000000 in
theorem wdiv_odd (p : Bool) (ao : Option Addr) (n c : Nat) (f : Nat → Int) (bo : Option Addr) (m d : Nat) (g : Nat → Int) (w : World)
    (hu : Nums .u64 w (.slice ao n c) n f) (hf : U64 n f) (hv : Nums .u64 w (.slice bo m d) m g) (hg : U64 m g) (h0 : num g m ≠ 0) (hl : nl W32 (num f n) ≤ 999999) (hR : num f n % num g m ≠ 0) :
    Calls Try.prog 26 #[.agg #[.bool p, .slice ao n c], .agg #[.bool (!p), .slice bo m d]] w fun e w' => DivOut (zof p (num f n)) (zof (!p) (num g m)) w.heap.size w e w' := by
  have hA : ∀ o o' o'' o3, Below w.heap.size w ((((w.alloc o).alloc o').alloc o'').alloc o3) := fun o o' o'' o3 => ((((Below.refl _ _).alloc (Nat.le_refl _) _).alloc (by simp) _).alloc (by simp; omega) _).alloc (by simp; omega) _
  have ne1 : ¬ w.heap.size = w.heap.size + 1 + 1 := by omega
  have ne2 : ¬ w.heap.size + 1 + 1 = w.heap.size := by omega
  have ne3 : ¬ w.heap.size = w.heap.size + 1 + 1 + 1 := by omega
  have ne4 : ¬ w.heap.size + 1 + 1 + 1 = w.heap.size := by omega
  have ne5 : ¬ w.heap.size + 1 = w.heap.size + 1 + 1 + 1 := by omega
  have ne6 : ¬ w.heap.size + 1 + 1 + 1 = w.heap.size + 1 := by omega
  have hpq : (p == !p) = false := by cases p <;> rfl
  obtain ⟨c1, c2, c3, c4⟩ := box_b w 31 31 (.bool p) (.slice ao n c) (.bool (!p)) (.slice bo m d) (.cells #[.bool false, .slice none 0 0] 31) (.cells #[.bool false, .slice none 0 0] 31)
  have hfl : Hid (_ ∧ _) := floor_odd p (num f n) (num g m) (by omega) hR
  generalize hq : (!p) = q at *
  go_enter Try.func26, Try.ntmps26
  go_wp2_with fail
  refine (divMod_of _ _ _ _ _ _ _ (hu.below (hA _ _ _ _)) (hv.below (hA _ _ _ _)) hf hg h0 (divide_any _ _ (by omega) hl)).mono ?_
  rintro e w0 ⟨qv, rv, rfl, hqv, hrv, hb0⟩
  have hj0 := keepW hb0 (by simp) (res34 w _ _ _ _ _ _ _ _)
  have hk0 := keepW hb0 (by simp) (res4 w _ _ _ _ _ _)
  obtain ⟨d1, d2, d3, d4⟩ := keep4 hb0 (by simp) ⟨c1, c2, c3, c4⟩
  have B0 : Below w.heap.size w w0 := (hA _ _ _ _).trans (hb0.mono (by simp; omega))
  clear c1 c2 c3 c4 hq
  have hlm : num f n % num g m < num g m := Nat.mod_lt _ (by omega)
  have hq1 : nl W32 (num f n / num g m) ≤ 999999 := Nat.le_trans (nl_mono W32 _ _ (by decide) (Nat.div_le_self _ _)) hl
  have hn1 := nl_one
  go_wp2_with fail
  refine (nat_zero_rep hrv.rep).mono ?_
  rintro e wz ⟨rfl, hw⟩
  subst hw
  rw [decide_eq_false hR]
  have i1 : Rep wz.drew qv (num f n / num g m) := hqv.nums.below (Below.refl _ wz).drew
  have i2 : Rep wz.drew rv (num f n % num g m) := hrv.nums.below (Below.refl _ wz).drew
  have i3 : Nums .u64 wz.drew (.slice bo m d) m g := hv.below B0.drew
  go_wp2
  go_region_held3 (fun w' => w'.cell? ⟨w.heap.size, 0, none⟩ = some (.bool p) ∧ w'.cell? ⟨w.heap.size, 1, none⟩ = some (.slice ao n c) ∧ w'.cell? ⟨w.heap.size + 1, 0, none⟩ = some (.bool q) ∧ w'.cell? ⟨w.heap.size + 1, 1, none⟩ = some (.slice bo m d)) (first | exact keep4 (by assumption) (by simp) (by assumption) | go_keep) (first
    | (go_at_call 29; refine (of_any _ _ (by omega) (by omega)).mono ?_; rintro e w1 ⟨s1, rfl, hs1, hb1⟩; rw [show (1 : Int).toNat = 1 from rfl] at hs1; have hj1 := keepW hb1 (Nat.le_refl _) hj0; have hk1 := keepW hb1 (Nat.le_refl _) hk0)
    | (go_at_call 37; refine (add_any _ _ _ _ _ _ _ (Nums.below i1 hb1) hs1.nums (u64_dg _ _) (u64_dg _ _) (by omega) (by omega)).mono ?_; rw [num_nl, num_nl]; rintro e w2 ⟨s2, rfl, hs2, hb2⟩; have hj2 := keepW hb2 (Nat.le_refl _) hj1; have hk2 := keepW hb2 (Nat.le_refl _) hk1)
    | (go_at_call_of 31 s2; refine (signed_any true _ _ _ hs2.rep).mono ?_; rintro e w3 ⟨r1, rfl, hr1, hb3⟩; obtain ⟨b1, ao1, n1, e1, rfl⟩ := hr1.open; have hj3 := keepW hb3 (Nat.le_refl _) hj2; have hk3 := keepW hb3 (Nat.le_refl _) hk2)
    | (go_at_call 39; refine (less_any _ _ _ _ _ _ _ (((i3.below hb1).below hb2).below hb3) (Nums.below (Nums.below (Nums.below i2 hb1) hb2) hb3) hg (u64_dg _ _) (by rw [num_nl]; omega)).mono ?_; rw [num_nl]; rintro e w4 ⟨s4, rfl, hs4, hb4⟩; have hj4 := keepW hb4 (Nat.le_refl _) hj3; have hk4 := keepW hb4 (Nat.le_refl _) hk3)
    | (go_at_call_of 31 s4; refine (signed_any q _ _ _ hs4.rep).mono ?_; rintro e w5 ⟨r2, rfl, hr2, hb5⟩; obtain ⟨b2, ao2, n2, e2, rfl⟩ := hr2.open; obtain ⟨q1, q2, q3, q4⟩ := keepW hb5 (Nat.le_refl _) hj4; obtain ⟨q5, q6, q7, q8⟩ := keepW hb5 (Nat.le_refl _) hk4))
  go_wp2
  (try simp only [Exit.inBlock, Exit.then])
  refine bodyPost_ret (v := .tuple #[.agg #[.bool b1, .slice ao1 n1 e1], .agg #[.bool b2, .slice ao2 n2 e2], .int .i64 0]) (by simp [results, go_sem, q1, q2, q5, q6]) rfl ?_
  have B1 := B0.drew.trans (hb1.mono B0.size)
  have B2 := B1.trans (hb2.mono B1.size)
  have B3 := B2.trans (hb3.mono B2.size)
  have B4 := B3.trans (hb4.mono B3.size)
  have B5 := B4.trans (hb5.mono B4.size)
  refine ⟨_, _, rfl, ?_, ?_, below_store2 (below_store2 B5 (by omega) _ _) (by omega) _ _⟩
  · rw [hfl.out.1]; exact ((hr1.below hb4).below hb5).store4 q1 q2 q5 q6 (by omega) _ _ _ _
  · rw [hfl.out.2]; exact hr2.store4 q1 q2 q5 q6 (by omega) _ _ _ _

theorem wdivMod_any (u v : Value) (x y : Int) (L M : Nat) (w : World) (hu : IntAt w u x L) (hv : IntAt w v y M) (hL : L ≤ 999998) (hy : y ≠ 0) :
    Calls Try.prog 26 #[u, v] w fun e w' => DivOut x y w.heap.size w e w' := by
  obtain ⟨p, ao, n, c, f, rfl, hu, hf, rfl, hn⟩ := hu
  obtain ⟨q, bo, m, d, g, rfl, hv, hg, rfl, hm⟩ := hv
  have h0 : num g m ≠ 0 := fun h => hy (by rw [h]; cases q <;> simp [zof])
  have hl : nl W32 (num f n) ≤ 999999 := Nat.le_trans (nl_le W32 _ _ (by decide) (num_lt f n)) (by omega)
  by_cases hpq : p = q
  · subst hpq
    exact wdiv_same p ao n c f bo m d g w hu hf hv hg h0 hl
  · obtain rfl : q = !p := by cases p <;> cases q <;> simp_all
    by_cases hR : num f n % num g m = 0
    · exact wdiv_even p ao n c f bo m d g w hu hf hv hg h0 hl hR
    · exact wdiv_odd p ao n c f bo m d g w hu hf hv hg h0 hl hR
theorem wdivMod_zero (u v : Value) (x : Int) (L M : Nat) (w : World) (hu : IntAt w u x L) (hv : IntAt w v 0 M) :
    Calls Try.prog 26 #[u, v] w fun e w' => ∃ q r, e = .returned (.tuple #[q, r, .int .i64 2]) ∧ RepI w' q 0 ∧ RepI w' r 0 ∧ Below w.heap.size w w' := by
  obtain ⟨p, ao, n, c, f, rfl, hu, hf, _, hn⟩ := hu
  obtain ⟨q, bo, m, d, g, rfl, hv, hg, h0, hm⟩ := hv
  exact wdiv_zero p q ao n c f bo m d g w hu hf hv hg (by have := zof_abs q (num g m); rw [h0] at this; simpa using this.symm)

end Go.Proofs.Ytlegcekklknjhaa

/-
  What the document's own Minus answers: a difference that is not below 0.
-/
namespace Go.Proofs.Ytlegcekklknjhaa
open Go.RowKit

theorem minus_step (B : Nat) (h f g : Nat → Int) (i : Nat) (c t : Int) (ht : t = f i - g i - c) (hv : val B h i - c * (B : Int) ^ i = val B f i - val B g i) :
    val B (put h i (t % B)) (i + 1) - (0 - t / B) * (B : Int) ^ (i + 1) = val B f (i + 1) - val B g (i + 1) := by
  have e1 : (B : Int) ^ (i + 1) = (B : Int) ^ i * B := Int.pow_succ _ _
  simp only [val]
  rw [put_same, val_congr i (fun j hj => put_other h i j _ (by omega)), e1, Int.zero_sub, Int.neg_mul, Int.sub_neg]
  have e := carry_step (B : Int) t 0 ((B : Int) ^ i) (val B h i)
  rw [Int.sub_zero, Int.sub_zero] at e
  rw [e, ht, Int.sub_mul, Int.sub_mul]; omega

set_option maxRecDepth 20000 in
set_option maxHeartbeats 2000000 in
theorem minus_nil (u v : Value) (x y : Nat) (w : World) (hu : RepD w u x) (hv : RepD w v y) (hlx : nl 10000 x ≤ 1000000) (hle : y ≤ x) :
    Calls Try.prog 20 #[u, v] w fun e w' => ∃ r, e = .returned r ∧ RepD w' r (x - y) ∧ NilC r ∧ Below w.heap.size w w' := by
  obtain ⟨i0, hi, hz0, hz1, hz2⟩ := info_parts info_int
  have hnl : nl 10000 y ≤ nl 10000 x := by
    by_cases g : nl 10000 x < nl 10000 y
    · have := lt_of_nl 10000 x y (by decide) g; omega
    · omega
  have hv0 := hv
  obtain ⟨ao, c, rfl, hnc, hl, h4⟩ := hu
  obtain ⟨bo, d, rfl, _, kl, k4⟩ := hv0
  clear k4
  unfold RepD at hv
  have HY : Hid (∀ i, at0 (dg 10000 y) (nl 10000 y) i = dg 10000 y i) := fun i => at0_dg y i _ rfl
  have VX : Hid (val 10000 (dg 10000 x) (nl 10000 x) = (x : Int)) := val_dg_ge x _ (Nat.le_refl _)
  have VY : Hid (val 10000 (dg 10000 y) (nl 10000 x) = (y : Int)) := val_dg_ge y _ hnl
  have HDX := show Hid (∀ i, 0 ≤ dg 10000 x i ∧ dg 10000 x i < ((10000 : Nat) : Int)) from fun i => dg_bounds 10000 x i (by decide)
  have HDY := show Hid (∀ i, 0 ≤ dg 10000 y i ∧ dg 10000 y i < ((10000 : Nat) : Int)) from fun i => dg_bounds 10000 y i (by decide)
  generalize nl 10000 x = n at *
  generalize nl 10000 y = m at *
  have H4 := show Hid (0 < n → ∃ b off, ao = some ⟨b, off, none⟩ ∧ Cells w .i64 b off n (dg 10000 x)) from h4
  clear h4
  go_enter Try.func20, Try.ntmps20
  go_wp2
  go_loopw [5, 6, 7] (fun v vc vi wr => ∃ (i : Nat) (cr : Int) (h : Nat → Int), i ≤ n ∧ vc = .int .i64 cr ∧ vi = .int .i64 (i : Int) ∧ 0 ≤ cr ∧ cr ≤ 1 ∧ Dig i h ∧ wr.ownsRow w.heap.size 3 1 v i (valsOf .i64 h i) ∧
      val 10000 h i - cr * ((10000 : Nat) : Int) ^ i = val 10000 (dg 10000 x) i - val 10000 (dg 10000 y) i ∧ Below w.heap.size w wr) (fun _ _ vi _ => n - (intOf vi).toNat)
  case atStart => exact ⟨0, 0, fun _ => 0, Nat.zero_le _, rfl, rfl, Int.le_refl _, by decide, fun i hi => by omega, World.ownsRow_nil _ _ _ _, by simp [val], Below.refl _ _⟩
  case round =>
    obtain ⟨i, cr, h, hin, rfl, rfl, hc0, hc1, hdig, hown, hval, hbel⟩ := hrel
    have hs := hbel.size
    have HV : Hid (val 10000 h i - cr * ((10000 : Nat) : Int) ^ i = val 10000 (dg 10000 x) i - val 10000 (dg 10000 y) i) := hval
    clear hval
    by_cases hlt : i < n
    · obtain ⟨b, off, rfl, hc⟩ := H4.out (by omega)
      have hcell := (hc.below hbel (hc.lt (by omega))) i hlt
      have hX := HDX.out i
      have hY := HDY.out i
      have hstep := minus_step 10000 h (dg 10000 x) (dg 10000 y) i cr (dg 10000 x i - dg 10000 y i - cr) rfl HV.out
      have HST : Hid (val 10000 (put h i ((dg 10000 x i - dg 10000 y i - cr) % ((10000 : Nat) : Int))) (i + 1) - (0 - (dg 10000 x i - dg 10000 y i - cr) / ((10000 : Nat) : Int)) * ((10000 : Nat) : Int) ^ (i + 1) = val 10000 (dg 10000 x) (i + 1) - val 10000 (dg 10000 y) (i + 1)) := hstep
      clear hstep
      have hvN := hv.below hbel
      have hay := HY.out i
      have i1 : (0 : Int) ≤ (i : Int) := by omega
      have i2 : (i : Int) < (n : Int) := by omega
      generalize dg 10000 x i = p at *
      generalize dg 10000 y i = q at *
      have hown2 : wr.drew.ownsRow w.heap.size 3 1 _ i (valsOf .i64 h i) := hown
      have hbel2 : Below w.heap.size w wr.drew := hbel.drew
      go_wp2
      go_region_held3 (fun w' => w'.cell? ⟨b, off + i, none⟩ = some (.int .i64 p)) (assumption) (first
        | (go_at_call 34; refine (digit_any _ _ _ _ i (by exact hvN) (by unfold LIM; omega)).mono ?_; rintro e w2 ⟨rfl, rfl⟩; rw [hay]))
      by_cases ht : p - q - cr < 0
      · have hti : p - q - cr < 0 := ht
        go_wp2_with (at_builtin; refine wpList_append_own _ rfl _ _ 24 rfl w.heap.size 3 i0 (.int .i64 0) 1 8 Try.underlying24 hi hz0 hz1 hz2 rfl (by decide) _ _ _ rfl (hown2.alloc _) ⟨wr.heap.size, 0, none⟩ 1 1 [.int .i64 (p - q - cr + 10000)] rfl rfl (cell_one_new _ _ _) (by intro u hu; simp at hu; subst hu; rfl) (by unfold maxLen; omega) (by omega) (by simp; omega) ?_)
        intro v' w3 hown' hgrow _
        have hb1 : Below w.heap.size w w3 := (hbel2.alloc (by simpa using hs) _).grown hgrow (by simp; omega) (fun k e => (World.ownsRow.lt hown _ e).1)
        rw [valsOf_snoc] at hown'
        clear hgrow hown hown2
        go_wp2
        go_roundw
        case rel =>
          refine ⟨i + 1, 0 - (p - q - cr) / ((10000 : Nat) : Int), put h i ((p - q - cr) % ((10000 : Nat) : Int)), by omega, by go_num, by go_num, by omega, by omega, ?_, ?_, HST.out, hb1⟩
          · intro j hj
            by_cases e : j = i
            · rw [e, put_same]; omega
            · rw [put_other _ _ _ _ e]; exact hdig j (by omega)
          · rw [show (p - q - cr) % ((10000 : Nat) : Int) = (p - q - cr + 10000) by omega]; exact hown'
        case measure => simp [intOf]; omega
      · have hti : ¬ p - q - cr < 0 := ht
        go_wp2_with (at_builtin; refine wpList_append_own _ rfl _ _ 24 rfl w.heap.size 3 i0 (.int .i64 0) 1 8 Try.underlying24 hi hz0 hz1 hz2 rfl (by decide) _ _ _ rfl (hown2.alloc _) ⟨wr.heap.size, 0, none⟩ 1 1 [.int .i64 (p - q - cr)] rfl rfl (cell_one_new _ _ _) (by intro u hu; simp at hu; subst hu; rfl) (by unfold maxLen; omega) (by omega) (by simp; omega) ?_)
        intro v' w3 hown' hgrow _
        have hb1 : Below w.heap.size w w3 := (hbel2.alloc (by simpa using hs) _).grown hgrow (by simp; omega) (fun k e => (World.ownsRow.lt hown _ e).1)
        rw [valsOf_snoc] at hown'
        clear hgrow hown hown2
        go_wp2
        go_roundw
        case rel =>
          refine ⟨i + 1, 0 - (p - q - cr) / ((10000 : Nat) : Int), put h i ((p - q - cr) % ((10000 : Nat) : Int)), by omega, by go_num, by go_num, by omega, by omega, ?_, ?_, HST.out, hb1⟩
          · intro j hj
            by_cases e : j = i
            · rw [e, put_same]; omega
            · rw [put_other _ _ _ _ e]; exact hdig j (by omega)
          · rw [show (p - q - cr) % ((10000 : Nat) : Int) = (p - q - cr) by omega]; exact hown'
        case measure => simp [intOf]; omega
    · have hiN : i = n := by omega
      subst hiN
      have hcr : cr = 0 := by
        have h1 := HV.out
        rw [VX.out, VY.out] at h1
        have h2 := (val_bounds 10000 h i hdig).2
        by_cases q : cr = 0
        · exact q
        · have e1 : cr = 1 := by omega
          rw [e1, Int.one_mul] at h1; omega
      have HVV : Hid (val 10000 h i = ((x - y : Nat) : Int)) := by
        show _ = _
        have h1 := HV.out
        rw [VX.out, VY.out, hcr, Int.zero_mul] at h1; omega
      have hN : Nums .i64 wr _ i h := owns_nums hown (by unfold LIM; omega)
      go_wp2_with (go_at_call 35; refine (trim_nil _ _ _ _ hN).mono ?_; rintro e w3 ⟨r, rfl, hr, hnil, _, rfl⟩)
      go_ret
      refine ⟨_, rfl, ?_, hnil (nilC_owns hown), hbel⟩
      have es := sz_val 10000 (by decide) h i (x - y) hdig HVV.out
      rw [es] at hr
      exact hr.congr (fun p hp => val_digit 10000 h i (x - y) hdig HVV.out p (Nat.lt_of_lt_of_le hp (by rw [← es]; exact sz_le _ _)))

theorem minus_any (u v : Value) (x y : Nat) (w : World) (hu : RepD w u x) (hv : RepD w v y) (hlx : nl 10000 x ≤ 1000000) (hle : y ≤ x) :
    Calls Try.prog 20 #[u, v] w fun e w' => ∃ r, e = .returned r ∧ RepD w' r (x - y) ∧ Below w.heap.size w w' :=
  (minus_nil u v x y w hu hv hlx hle).mono fun _ _ ⟨r, h1, h2, _, h4⟩ => ⟨r, h1, h2, h4⟩

end Go.Proofs.Ytlegcekklknjhaa

/-
  Whole numbers as the document's own answers have them; what dendronref02.Make, From, Small, Minus, Order, Plus, Times answer.
-/
namespace Go.Proofs.Ytlegcekklknjhaa
open Go.RowKit
set_option linter.unusedVariables false

/-- The value v is the whole number z, to the base 10000. -/
def RepJ (w : World) (v : Value) (z : Int) : Prop :=
  ∃ ao c, v = .agg #[.bool (decide (z < 0)), .slice ao (nl 10000 z.natAbs) c] ∧ RepD w (.slice ao (nl 10000 z.natAbs) c) z.natAbs
theorem RepJ.below {w w' : World} {v : Value} {z : Int} (h : RepJ w v z) (hb : Below w.heap.size w w') : RepJ w' v z := by
  obtain ⟨ao, c, h1, h2⟩ := h
  exact ⟨ao, c, h1, Nums.below h2 hb⟩
theorem RepJ.open {w : World} {v : Value} {z : Int} (h : RepJ w v z) : ∃ b ao n c, v = .agg #[.bool b, .slice ao n c] := by
  obtain ⟨ao, c, h1, _⟩ := h
  exact ⟨_, _, _, _, h1⟩
theorem RepJ.mk {w : World} {s : Value} {m : Nat} (neg : Bool) (hs : RepD w s m) : RepJ w (.agg #[.bool (neg && !decide (m = 0)), s]) (zof neg m) := by
  obtain ⟨ao, c, rfl, h2⟩ := hs
  refine ⟨ao, c, ?_, ?_⟩
  · rw [zof_abs, zof_neg]
  · rw [zof_abs]; exact ⟨ao, c, rfl, h2⟩
theorem RepJ.nil (w : World) : RepJ w (.agg #[.bool false, .slice none 0 0]) 0 :=
  ⟨none, 0, by simp [nl_zero], by show RepD w (.slice none (nl 10000 0) 0) 0; rw [nl_zero]; unfold RepD; rw [nl_zero]; exact Nums.nil _ _ _⟩
theorem RepJ.store2 {w : World} {v : Value} {z : Int} (h : RepJ w v z) {R m c : Nat} {p : Bool} {ao : Option Addr} (q1 : w.cell? ⟨R, 0, none⟩ = some (.bool p)) (q2 : w.cell? ⟨R, 1, none⟩ = some (.slice ao m c)) (x y : Value) :
    RepJ ((w.setCell ⟨R, 0, none⟩ x).setCell ⟨R, 1, none⟩ y) v z := by
  obtain ⟨ao, c, h1, h2⟩ := h
  exact ⟨ao, c, h1, Nums.store2 h2 q1 q2 x y⟩

set_option maxRecDepth 20000 in
set_option maxHeartbeats 400000 in
theorem rmake_any (neg : Bool) (s : Value) (m : Nat) (w : World) (hs : RepD w s m) :
    Calls Try.prog 15 #[.bool neg, s] w fun e w' => ∃ r, e = .returned r ∧ RepJ w' r (zof neg m) ∧ Below w.heap.size w w' := by
  have hs0 := hs
  obtain ⟨ao, c, rfl, _⟩ := hs
  have hA : ∀ o, Below w.heap.size w (w.alloc o) := fun o => (Below.refl _ _).alloc (Nat.le_refl _) _
  cases neg with
  | false =>
    go_enter Try.func15, Try.ntmps15
    go_wp2
    refine bodyPost_ret (v := .agg #[.bool false, .slice ao (nl 10000 m) c]) (by simp [results, go_sem]) rfl ?_
    exact ⟨_, rfl, RepJ.mk false (Nums.below hs0 (hA _)), hA _⟩
  | true =>
    have hz := nl_eq_zero 10000 m (by decide)
    by_cases h0 : m = 0
    · have hn : nl 10000 m = 0 := hz.2 h0
      have J := RepJ.mk true hs0
      rw [decide_eq_true h0] at J
      rw [hn] at J hs0 ⊢
      go_enter Try.func15, Try.ntmps15
      go_wp2
      refine bodyPost_ret (v := .agg #[.bool false, .slice ao 0 c]) (by simp [results, go_sem]) rfl ?_
      exact ⟨_, rfl, J.below (hA _), hA _⟩
    · have hn : (0 : Int) < (nl 10000 m : Int) := by have : nl 10000 m ≠ 0 := fun h => h0 (hz.1 h); omega
      have J := RepJ.mk true hs0
      rw [decide_eq_false h0] at J
      generalize nl 10000 m = N at *
      go_enter Try.func15, Try.ntmps15
      go_wp2
      refine bodyPost_ret (v := .agg #[.bool true, .slice ao N c]) (by have hn2 : 0 < N := (by omega); simp [results, go_sem, hn2]) rfl ?_
      exact ⟨_, rfl, J.below (hA _), hA _⟩

set_option maxRecDepth 20000 in
set_option maxHeartbeats 1000000 in
theorem rfrom_any (v : Value) (z : Int) (L : Nat) (w : World) (h : IntAt w v z L) (hL : L ≤ 1000) :
    Calls Try.prog 8 #[v] w fun e w' => ∃ r, e = .returned r ∧ RepJ w' r z ∧ Below w.heap.size w w' := by
  obtain ⟨neg, ao, n, c, f, rfl, h, hf, rfl, hn⟩ := h
  have hA : ∀ o o', Below w.heap.size w ((w.alloc o).alloc o') := fun o o' => ((Below.refl _ _).alloc (Nat.le_refl _) _).alloc (by simp) _
  go_enter Try.func8, Try.ntmps8
  go_wp2
  go_region_held3 (fun w' => w'.cell? ⟨w.heap.size, 0, none⟩ = some (.bool neg) ∧ w'.cell? ⟨w.heap.size, 1, none⟩ = some (.slice ao n c)) (first | exact keep2 (by assumption) (by simp) (by assumption) | go_keep) (first
    | (go_at_call 21; refine (from_any _ _ _ _ (h.below (hA _ _).drew) hf (by omega)).mono ?_; rintro e w1 ⟨s, rfl, hs, hb1⟩; have hk1 := keepW hb1 (by simp) (res1 w _ _ _ _))
    | (go_at_call 15; refine (rmake_any _ _ _ _ hs).mono ?_; rintro e w2 ⟨r, rfl, hr, hb2⟩; obtain ⟨b2, ao2, n2, c2, rfl⟩ := hr.open; obtain ⟨q1, q2, q3, q4⟩ := keepW hb2 (Nat.le_refl _) hk1))
  go_wp2
  refine bodyPost_ret (v := .agg #[.bool b2, .slice ao2 n2 c2]) (by simp [results, go_sem, q1, q2]) rfl ?_
  have B1 := (hA _ _).drew.trans (hb1.mono (by simp; omega))
  have B2 := B1.trans (hb2.mono B1.size)
  exact ⟨_, rfl, hr.store2 q1 q2 _ _, below_store2 B2 (by omega) _ _⟩

set_option maxRecDepth 20000 in
set_option maxHeartbeats 1000000 in
theorem rsmall_any (k : Int) (w : World) (h0 : -9223372036854775808 ≤ k) (h1 : k ≤ 9223372036854775807) :
    Calls Try.prog 5 #[.int .i64 k] w fun e w' => ∃ r, e = .returned r ∧ RepJ w' r k ∧ Below w.heap.size w w' := by
  have hA : ∀ o, Below w.heap.size w (w.alloc o) := fun o => (Below.refl _ _).alloc (Nat.le_refl _) _
  by_cases hk : k < 0
  · obtain ⟨K, hK⟩ : ∃ K : Nat, 0 - (k + 1) = (K : Int) := ⟨(0 - (k + 1)).toNat, by omega⟩
    have hz : zof true (K + 1) = k := by rw [zof_true]; omega
    have hb1 : nl 10000 K ≤ 1000000 := Nat.le_trans (nl_small K 2 (by unfold W32; omega)) (by omega)
    have hb2 : nl 10000 1 ≤ 1000000 := Nat.le_trans (nl_small 1 2 (by decide)) (by omega)
    go_enter Try.func5, Try.ntmps5
    go_wp2_with fail
    refine (small_any K _ (by omega)).mono ?_
    rintro e w1 ⟨s1, rfl, hs1, hb1'⟩
    have hk1 := keepW hb1' (by simp) (resW w _ _ _)
    have B1 := (hA _).trans (hb1'.mono (by simp))
    go_wp2_with fail
    refine (small_any 1 _ (by omega)).mono ?_
    rintro e w2 ⟨s2, rfl, hs2, hb2'⟩
    have hk2 := keepW hb2' (Nat.le_refl _) hk1
    have B2 := B1.trans (hb2'.mono B1.size)
    go_wp2_with fail
    refine (plus_any _ _ _ _ _ (Nums.below hs1 hb2') hs2 hb1 hb2).mono ?_
    rintro e w3 ⟨s3, rfl, hs3, hb3'⟩
    have hk3 := keepW hb3' (Nat.le_refl _) hk2
    have B3 := B2.trans (hb3'.mono B2.size)
    go_wp2_with fail
    refine (rmake_any _ _ _ _ hs3).mono ?_
    rintro e w4 ⟨r, rfl, hr, hb4⟩
    obtain ⟨b2, ao2, n2, c2, rfl⟩ := hr.open
    obtain ⟨q1, q2, q3, q4⟩ := keepW hb4 (Nat.le_refl _) hk3
    go_wp2
    (try simp only [Exit.inBlock, Exit.then])
    refine bodyPost_ret (v := .agg #[.bool b2, .slice ao2 n2 c2]) (by simp [results, go_sem, q1, q2]) rfl ?_
    have B4 := B3.trans (hb4.mono B3.size)
    rw [hz] at hr
    exact ⟨_, rfl, hr.store2 q1 q2 _ _, below_store2 B4 (by omega) _ _⟩
  · obtain ⟨K, rfl⟩ : ∃ K : Nat, k = (K : Int) := ⟨k.toNat, by omega⟩
    go_enter Try.func5, Try.ntmps5
    go_wp2_with fail
    refine (small_any K _ (by omega)).mono ?_
    rintro e w1 ⟨s1, rfl, hs1, hb1'⟩
    have hk1 := keepW hb1' (by simp) (resW w _ _ _)
    have B1 := (hA _).trans (hb1'.mono (by simp))
    go_wp2_with fail
    refine (rmake_any _ _ _ _ hs1).mono ?_
    rintro e w4 ⟨r, rfl, hr, hb4⟩
    obtain ⟨b2, ao2, n2, c2, rfl⟩ := hr.open
    obtain ⟨q1, q2, q3, q4⟩ := keepW hb4 (Nat.le_refl _) hk1
    go_wp2
    (try simp only [Exit.inBlock, Exit.then])
    refine bodyPost_ret (v := .agg #[.bool b2, .slice ao2 n2 c2]) (by simp [results, go_sem, q1, q2]) rfl ?_
    have B4 := B1.trans (hb4.mono B1.size)
    rw [zof_false] at hr
    exact ⟨_, rfl, hr.store2 q1 q2 _ _, below_store2 B4 (by omega) _ _⟩

set_option maxRecDepth 20000 in
set_option maxHeartbeats 1000000 in
theorem rorder_any (u v : Value) (x y : Int) (w : World) (hu : RepJ w u x) (hv : RepJ w v y) :
    Calls Try.prog 23 #[u, v] w fun e w' => e = .returned (.int .i64 (cmpI x y)) ∧ Below w.heap.size w w' := by
  obtain ⟨ao, c, rfl, hu⟩ := hu
  obtain ⟨bo, d, rfl, hv⟩ := hv
  have hA : ∀ o o', Below w.heap.size w ((w.alloc o).alloc o') := fun o o' => ((Below.refl _ _).alloc (Nat.le_refl _) _).alloc (by simp) _
  by_cases hx : x < 0
  · rw [decide_eq_true hx]
    by_cases hy : y < 0
    · rw [decide_eq_true hy]
      have HE : Hid (cmpI x y = cmpI y.natAbs x.natAbs) := by show _ = _; unfold cmpI; repeat' split <;> omega
      clear hx hy
      go_enter Try.func23, Try.ntmps23
      go_wp2_with fail
      refine (order_any _ _ _ _ _ (Nums.below hv (hA _ _)) (Nums.below hu (hA _ _))).mono ?_
      rintro e w1 ⟨rfl, hb1⟩
      go_wp2
      go_ret
      exact ⟨by rw [HE.out]; rfl, (hA _ _).trans (hb1.mono (by simp; omega))⟩
    · rw [decide_eq_false hy]
      have HE : Hid (cmpI x y = -1) := cmpI_lt (by omega)
      clear hx hy
      go_enter Try.func23, Try.ntmps23
      go_wp2
      go_ret
      exact ⟨by rw [HE.out]; rfl, hA _ _⟩
  · rw [decide_eq_false hx]
    by_cases hy : y < 0
    · rw [decide_eq_true hy]
      have HE : Hid (cmpI x y = 1) := cmpI_gt (by omega)
      clear hx hy
      go_enter Try.func23, Try.ntmps23
      go_wp2
      go_ret
      exact ⟨by rw [HE.out]; rfl, hA _ _⟩
    · rw [decide_eq_false hy]
      have HE : Hid (cmpI x y = cmpI x.natAbs y.natAbs) := by show _ = _; unfold cmpI; repeat' split <;> omega
      clear hx hy
      go_enter Try.func23, Try.ntmps23
      go_wp2_with fail
      refine (order_any _ _ _ _ _ (Nums.below hu (hA _ _)) (Nums.below hv (hA _ _))).mono ?_
      rintro e w1 ⟨rfl, hb1⟩
      go_wp2
      go_ret
      exact ⟨by rw [HE.out]; rfl, (hA _ _).trans (hb1.mono (by simp; omega))⟩

set_option maxRecDepth 20000 in
set_option maxHeartbeats 2000000 in
theorem rplus_same (p : Bool) (ao : Option Addr) (n c X : Nat) (bo : Option Addr) (m d Y : Nat) (w : World)
    (hu : RepD w (.slice ao n c) X) (hv : RepD w (.slice bo m d) Y) (hX : nl 10000 X ≤ 1000000) (hY : nl 10000 Y ≤ 1000000) :
    Calls Try.prog 7 #[.agg #[.bool p, .slice ao n c], .agg #[.bool p, .slice bo m d]] w fun e w' => ∃ r, e = .returned r ∧ RepJ w' r (zof p (X + Y)) ∧ Below w.heap.size w w' := by
  have hA : ∀ o o' o'', Below w.heap.size w (((w.alloc o).alloc o').alloc o'') := fun o o' o'' => (((Below.refl _ _).alloc (Nat.le_refl _) _).alloc (by simp) _).alloc (by simp; omega) _
  have ne1 : ¬ w.heap.size = w.heap.size + 1 + 1 := by omega
  have ne2 : ¬ w.heap.size + 1 + 1 = w.heap.size := by omega
  obtain ⟨c1, c2, c3, c4⟩ := box_a w 26 26 26 (.bool p) (.slice ao n c) (.bool p) (.slice bo m d) (.bool false) (.slice none 0 0)
  go_enter Try.func7, Try.ntmps7
  go_wp2
  go_region_held3 (fun w' => w'.cell? ⟨w.heap.size, 0, none⟩ = some (.bool p) ∧ w'.cell? ⟨w.heap.size, 1, none⟩ = some (.slice ao n c) ∧ w'.cell? ⟨w.heap.size + 1, 0, none⟩ = some (.bool p) ∧ w'.cell? ⟨w.heap.size + 1, 1, none⟩ = some (.slice bo m d)) (first | exact keep4 (by assumption) (by simp) (by assumption) | go_keep) (first
    | (go_at_call 17; refine (plus_any _ _ _ _ _ (Nums.below hu (hA _ _ _).drew) (Nums.below hv (hA _ _ _).drew) hX hY).mono ?_; rintro e w1 ⟨s, rfl, hs, hb1⟩; have hk1 := keepW hb1 (by simp) (res2 w _ _ _ _ _))
    | (go_at_call 15; refine (rmake_any _ _ _ _ hs).mono ?_; rintro e w2 ⟨r, rfl, hr, hb2⟩; obtain ⟨b2, ao2, n2, c2, rfl⟩ := hr.open; obtain ⟨q1, q2, q3, q4⟩ := keepW hb2 (Nat.le_refl _) hk1))
  go_wp2
  (try simp only [Exit.inBlock, Exit.then])
  refine bodyPost_ret (v := .agg #[.bool b2, .slice ao2 n2 c2]) (by simp [results, go_sem, q1, q2]) rfl ?_
  have B1 := (hA _ _ _).drew.trans (hb1.mono (by simp; omega))
  have B2 := B1.trans (hb2.mono B1.size)
  exact ⟨_, rfl, hr.store2 q1 q2 _ _, below_store2 B2 (by omega) _ _⟩

set_option maxRecDepth 20000 in
set_option maxHeartbeats 2000000 in
theorem rplus_lt (p : Bool) (ao : Option Addr) (n c X : Nat) (bo : Option Addr) (m d Y : Nat) (w : World)
    (hu : RepD w (.slice ao n c) X) (hv : RepD w (.slice bo m d) Y) (hX : nl 10000 X ≤ 1000000) (hY : nl 10000 Y ≤ 1000000) (hc0 : X < Y) :
    Calls Try.prog 7 #[.agg #[.bool p, .slice ao n c], .agg #[.bool (!p), .slice bo m d]] w fun e w' => ∃ r, e = .returned r ∧ RepJ w' r (zof (!p) (Y - X)) ∧ Below w.heap.size w w' := by
  have hA : ∀ o o' o'', Below w.heap.size w (((w.alloc o).alloc o').alloc o'') := fun o o' o'' => (((Below.refl _ _).alloc (Nat.le_refl _) _).alloc (by simp) _).alloc (by simp; omega) _
  have ne1 : ¬ w.heap.size = w.heap.size + 1 + 1 := by omega
  have ne2 : ¬ w.heap.size + 1 + 1 = w.heap.size := by omega
  obtain ⟨c1, c2, c3, c4⟩ := box_a w 26 26 26 (.bool p) (.slice ao n c) (.bool (!p)) (.slice bo m d) (.bool false) (.slice none 0 0)
  have hpq : (p == !p) = false := by cases p <;> rfl
  have hc : cmpI X Y < 0 := by rw [cmpI_lt (by omega)]; omega
  generalize hq : (!p) = q at *
  go_enter Try.func7, Try.ntmps7
  go_wp2_with fail
  refine (order_any _ _ _ _ _ (Nums.below hu (hA _ _ _)) (Nums.below hv (hA _ _ _))).mono ?_
  rintro e w0 ⟨rfl, hb0⟩
  have hk0 := keepW hb0 (by simp) (res2 w _ _ _ _ _)
  obtain ⟨d1, d2, d3, d4⟩ := keep4 hb0 (by simp) ⟨c1, c2, c3, c4⟩
  have B0 : Below w.heap.size w w0 := (hA _ _ _).trans (hb0.mono (by simp; omega))
  clear c1 c2 c3 c4 hq
  generalize cmpI X Y = C at *
  go_wp2
  go_region_held3 (fun w' => w'.cell? ⟨w.heap.size, 0, none⟩ = some (.bool p) ∧ w'.cell? ⟨w.heap.size, 1, none⟩ = some (.slice ao n c) ∧ w'.cell? ⟨w.heap.size + 1, 0, none⟩ = some (.bool q) ∧ w'.cell? ⟨w.heap.size + 1, 1, none⟩ = some (.slice bo m d)) (first | exact keep4 (by assumption) (by simp) (by assumption) | go_keep) (first
    | (go_at_call 20; refine (minus_any _ _ _ _ _ (Nums.below hv B0.drew) (Nums.below hu B0.drew) hY (by omega)).mono ?_; rintro e w1 ⟨s, rfl, hs, hb1⟩; have hk1 := keepW hb1 (Nat.le_refl _) hk0)
    | (go_at_call 15; refine (rmake_any _ _ _ _ hs).mono ?_; rintro e w2 ⟨r, rfl, hr, hb2⟩; obtain ⟨b2, ao2, n2, c2, rfl⟩ := hr.open; obtain ⟨q1, q2, q3, q4⟩ := keepW hb2 (Nat.le_refl _) hk1))
  go_wp2
  (try simp only [Exit.inBlock, Exit.then])
  refine bodyPost_ret (v := .agg #[.bool b2, .slice ao2 n2 c2]) (by simp [results, go_sem, q1, q2]) rfl ?_
  have B1 := B0.drew.trans (hb1.mono B0.size)
  have B2 := B1.trans (hb2.mono B1.size)
  exact ⟨_, rfl, hr.store2 q1 q2 _ _, below_store2 B2 (by omega) _ _⟩

set_option maxRecDepth 20000 in
set_option maxHeartbeats 2000000 in
theorem rplus_ge (p : Bool) (ao : Option Addr) (n c X : Nat) (bo : Option Addr) (m d Y : Nat) (w : World)
    (hu : RepD w (.slice ao n c) X) (hv : RepD w (.slice bo m d) Y) (hX : nl 10000 X ≤ 1000000) (hY : nl 10000 Y ≤ 1000000) (hc0 : Y ≤ X) :
    Calls Try.prog 7 #[.agg #[.bool p, .slice ao n c], .agg #[.bool (!p), .slice bo m d]] w fun e w' => ∃ r, e = .returned r ∧ RepJ w' r (zof p (X - Y)) ∧ Below w.heap.size w w' := by
  have hA : ∀ o o' o'', Below w.heap.size w (((w.alloc o).alloc o').alloc o'') := fun o o' o'' => (((Below.refl _ _).alloc (Nat.le_refl _) _).alloc (by simp) _).alloc (by simp; omega) _
  have ne1 : ¬ w.heap.size = w.heap.size + 1 + 1 := by omega
  have ne2 : ¬ w.heap.size + 1 + 1 = w.heap.size := by omega
  obtain ⟨c1, c2, c3, c4⟩ := box_a w 26 26 26 (.bool p) (.slice ao n c) (.bool (!p)) (.slice bo m d) (.bool false) (.slice none 0 0)
  have hpq : (p == !p) = false := by cases p <;> rfl
  have hc : ¬ cmpI X Y < 0 := by unfold cmpI; rw [if_neg (by omega)]; split <;> omega
  generalize hq : (!p) = q at *
  go_enter Try.func7, Try.ntmps7
  go_wp2_with fail
  refine (order_any _ _ _ _ _ (Nums.below hu (hA _ _ _)) (Nums.below hv (hA _ _ _))).mono ?_
  rintro e w0 ⟨rfl, hb0⟩
  have hk0 := keepW hb0 (by simp) (res2 w _ _ _ _ _)
  obtain ⟨d1, d2, d3, d4⟩ := keep4 hb0 (by simp) ⟨c1, c2, c3, c4⟩
  have B0 : Below w.heap.size w w0 := (hA _ _ _).trans (hb0.mono (by simp; omega))
  clear c1 c2 c3 c4 hq
  generalize cmpI X Y = C at *
  go_wp2
  go_region_held3 (fun w' => w'.cell? ⟨w.heap.size, 0, none⟩ = some (.bool p) ∧ w'.cell? ⟨w.heap.size, 1, none⟩ = some (.slice ao n c) ∧ w'.cell? ⟨w.heap.size + 1, 0, none⟩ = some (.bool q) ∧ w'.cell? ⟨w.heap.size + 1, 1, none⟩ = some (.slice bo m d)) (first | exact keep4 (by assumption) (by simp) (by assumption) | go_keep) (first
    | (go_at_call 20; refine (minus_any _ _ _ _ _ (Nums.below hu B0.drew) (Nums.below hv B0.drew) hX (by omega)).mono ?_; rintro e w1 ⟨s, rfl, hs, hb1⟩; have hk1 := keepW hb1 (Nat.le_refl _) hk0)
    | (go_at_call 15; refine (rmake_any _ _ _ _ hs).mono ?_; rintro e w2 ⟨r, rfl, hr, hb2⟩; obtain ⟨b2, ao2, n2, c2, rfl⟩ := hr.open; obtain ⟨q1, q2, q3, q4⟩ := keepW hb2 (Nat.le_refl _) hk1))
  go_wp2
  (try simp only [Exit.inBlock, Exit.then])
  refine bodyPost_ret (v := .agg #[.bool b2, .slice ao2 n2 c2]) (by simp [results, go_sem, q1, q2]) rfl ?_
  have B1 := B0.drew.trans (hb1.mono B0.size)
  have B2 := B1.trans (hb2.mono B1.size)
  exact ⟨_, rfl, hr.store2 q1 q2 _ _, below_store2 B2 (by omega) _ _⟩

theorem rplus_any (u v : Value) (x y : Int) (w : World) (hu : RepJ w u x) (hv : RepJ w v y) (hX : nl 10000 x.natAbs ≤ 1000000) (hY : nl 10000 y.natAbs ≤ 1000000) :
    Calls Try.prog 7 #[u, v] w fun e w' => ∃ r, e = .returned r ∧ RepJ w' r (x + y) ∧ Below w.heap.size w w' := by
  obtain ⟨ao, c, rfl, hu⟩ := hu
  obtain ⟨bo, d, rfl, hv⟩ := hv
  have e1 := zof_self x
  have e2 := zof_self y
  generalize decide (x < 0) = p at *
  generalize decide (y < 0) = q at *
  rw [← e1, ← e2]
  simp only [zof_abs]
  by_cases hpq : p = q
  · subst hpq
    rw [← zof_add]
    exact rplus_same p ao _ c _ bo _ d _ w hu hv hX hY
  · obtain rfl : q = !p := by cases p <;> cases q <;> simp_all
    by_cases hlt : x.natAbs < y.natAbs
    · rw [Int.add_comm, ← Bool.not_not p, Bool.not_not (!p), ← zof_less _ _ _ (by omega), Bool.not_not p]
      exact rplus_lt p ao _ c _ bo _ d _ w hu hv hX hY hlt
    · rw [← zof_less _ _ _ (by omega)]
      exact rplus_ge p ao _ c _ bo _ d _ w hu hv hX hY (by omega)

set_option maxRecDepth 20000 in
set_option maxHeartbeats 2000000 in
theorem rtimes_raw (p q : Bool) (ao : Option Addr) (n c X : Nat) (bo : Option Addr) (m d Y : Nat) (w : World)
    (hu : RepD w (.slice ao n c) X) (hv : RepD w (.slice bo m d) Y) (hX : nl 10000 X ≤ 1000000) (hY : nl 10000 Y ≤ 1000000) :
    Calls Try.prog 14 #[.agg #[.bool p, .slice ao n c], .agg #[.bool q, .slice bo m d]] w fun e w' => ∃ r, e = .returned r ∧ RepJ w' r (zof p X * zof q Y) ∧ Below w.heap.size w w' := by
  have hA : ∀ o o' o'', Below w.heap.size w (((w.alloc o).alloc o').alloc o'') := fun o o' o'' => (((Below.refl _ _).alloc (Nat.le_refl _) _).alloc (by simp) _).alloc (by simp; omega) _
  have ne1 : ¬ w.heap.size = w.heap.size + 1 + 1 := by omega
  have ne2 : ¬ w.heap.size + 1 + 1 = w.heap.size := by omega
  obtain ⟨c1, c2, c3, c4⟩ := box_a w 26 26 26 (.bool p) (.slice ao n c) (.bool q) (.slice bo m d) (.bool false) (.slice none 0 0)
  go_enter Try.func14, Try.ntmps14
  go_wp2
  go_region_held3 (fun w' => w'.cell? ⟨w.heap.size, 0, none⟩ = some (.bool p) ∧ w'.cell? ⟨w.heap.size, 1, none⟩ = some (.slice ao n c) ∧ w'.cell? ⟨w.heap.size + 1, 0, none⟩ = some (.bool q) ∧ w'.cell? ⟨w.heap.size + 1, 1, none⟩ = some (.slice bo m d)) (first | exact keep4 (by assumption) (by simp) (by assumption) | go_keep) (first
    | (go_at_call 33; refine (times_any _ _ _ _ _ (Nums.below hu (hA _ _ _).drew) (Nums.below hv (hA _ _ _).drew) hX hY).mono ?_; rintro e w1 ⟨s, rfl, hs, hb1⟩; have hk1 := keepW hb1 (by simp) (res2 w _ _ _ _ _))
    | (go_at_call 15; refine (rmake_any _ _ _ _ hs).mono ?_; rintro e w2 ⟨r, rfl, hr, hb2⟩; obtain ⟨b2, ao2, n2, c2, rfl⟩ := hr.open; obtain ⟨q1, q2, q3, q4⟩ := keepW hb2 (Nat.le_refl _) hk1))
  go_wp2
  (try simp only [Exit.inBlock, Exit.then])
  refine bodyPost_ret (v := .agg #[.bool b2, .slice ao2 n2 c2]) (by simp [results, go_sem, q1, q2]) rfl ?_
  have B1 := (hA _ _ _).drew.trans (hb1.mono (by simp; omega))
  have B2 := B1.trans (hb2.mono B1.size)
  rw [zof_mul] at hr
  exact ⟨_, rfl, hr.store2 q1 q2 _ _, below_store2 B2 (by omega) _ _⟩
theorem rtimes_any (u v : Value) (x y : Int) (w : World) (hu : RepJ w u x) (hv : RepJ w v y) (hX : nl 10000 x.natAbs ≤ 1000000) (hY : nl 10000 y.natAbs ≤ 1000000) :
    Calls Try.prog 14 #[u, v] w fun e w' => ∃ r, e = .returned r ∧ RepJ w' r (x * y) ∧ Below w.heap.size w w' := by
  obtain ⟨ao, c, rfl, hu⟩ := hu
  obtain ⟨bo, d, rfl, hv⟩ := hv
  have h := rtimes_raw (decide (x < 0)) (decide (y < 0)) ao _ c _ bo _ d _ w hu hv hX hY
  rw [zof_self, zof_self] at h; exact h

end Go.Proofs.Ytlegcekklknjhaa

/-
  What the statements' own few and awake answer for whole numbers, and dendronref02.Is of a number in its one form.
-/
namespace Go.Proofs.Ytlegcekklknjhaa
open Go.RowKit
set_option linter.unusedVariables false

theorem rightB_rep (m : Nat) : rightB (dg W32 m) (nl W32 m) = true := by
  simp only [rightB, decide_eq_true_eq]
  exact ⟨fun i _ => by have := dg_bounds W32 m i (by decide); unfold W32 at this ⊢; omega, fun h0 => nl_top W32 m h0⟩
theorem refRight_rep {w : World} {v : Value} {m : Nat} (h : Rep w v m) :
    Calls Try.prog 22 #[v] w fun e w' => e = .returned (.bool true) ∧ w' = w := by
  have g := refRight_any v _ _ w h
  rw [rightB_rep] at g; exact g

set_option maxRecDepth 20000 in
set_option maxHeartbeats 2000000 in
theorem ris_rep (u v : Value) (x : Int) (w : World) (hu : RepI w u x) (hx : nl W32 x.natAbs ≤ 1000) (hv : RepJ w v x) :
    Calls Try.prog 9 #[u, v] w fun e w' => e = .returned (.bool true) ∧ Below w.heap.size w w' := by
  have hI := hu.at 1000 hx
  have hJ := hv
  obtain ⟨ao, c, rfl, hu⟩ := hu
  obtain ⟨bo, d, rfl, hv⟩ := hv
  have hA : ∀ o o', Below w.heap.size w ((w.alloc o).alloc o') := fun o o' => ((Below.refl _ _).alloc (Nat.le_refl _) _).alloc (by simp) _
  have c1 := (resW w 31 (.bool (decide (x < 0))) (.slice ao (nl W32 x.natAbs) c))
  have c2 := (res1 w (.cells #[.bool (decide (x < 0)), .slice ao (nl W32 x.natAbs) c] 31) 26 (.bool (decide (x < 0))) (.slice bo (nl 10000 x.natAbs) d))
  have b1 : Below (w.heap.size + 1) (w.alloc (.cells #[.bool (decide (x < 0)), .slice ao (nl W32 x.natAbs) c] 31)) ((w.alloc (.cells #[.bool (decide (x < 0)), .slice ao (nl W32 x.natAbs) c] 31)).alloc (.cells #[.bool (decide (x < 0)), .slice bo (nl 10000 x.natAbs) d] 26)) := (Below.refl _ _).alloc (by simp) _
  have k1 := keep2 b1 (by simp) ⟨c1.1, c1.2.1⟩
  have hSS := And.intro k1.1 (And.intro k1.2 (And.intro c2.1 c2.2.1))
  clear c1 c2 b1 k1
  have hN : nl W32 x.natAbs = 0 ∨ 0 < nl W32 x.natAbs := by omega
  have hzero : nl W32 x.natAbs = 0 → decide (x < 0) = false := fun h => by
    have := (nl_eq_zero W32 x.natAbs (by decide)).1 h
    rw [decide_eq_false_iff_not]; omega
  generalize hn : nl W32 x.natAbs = n at *
  generalize nl 10000 x.natAbs = m at *
  generalize decide (x < 0) = p at *
  have hR : ∀ W, Below w.heap.size w W → Calls Try.prog 22 #[.slice ao n c] W fun e w' => e = .returned (.bool true) ∧ w' = W := fun W hW => refRight_rep (Nums.below hu hW)
  rcases hN with h0 | h0
  · obtain rfl := hzero h0
    subst h0
    have BA : Below w.heap.size w ((w.alloc (.cells #[.bool false, .slice ao 0 c] 31)).alloc (.cells #[.bool false, .slice bo m d] 26)).drew := (hA _ _).drew
    clear hzero
    go_enter Try.func9, Try.ntmps9
    go_wp2
    go_region_held3 (fun w' => w'.cell? ⟨w.heap.size, 0, none⟩ = some (.bool false) ∧ w'.cell? ⟨w.heap.size, 1, none⟩ = some (.slice ao 0 c) ∧ w'.cell? ⟨w.heap.size + 1, 0, none⟩ = some (.bool false) ∧ w'.cell? ⟨w.heap.size + 1, 1, none⟩ = some (.slice bo m d)) (first | exact keep4 (by assumption) (by simp) (by assumption) | exact hSS | go_keep) (first
      | (go_at_call 22; refine (hR _ BA).mono ?_; rintro e w0 ⟨rfl, hw⟩; subst hw)
      | (go_at_call 8; refine (rfrom_any _ _ _ _ (hI.below BA) (Nat.le_refl _)).mono ?_; rintro e w1 ⟨r1, rfl, hr1, hb1⟩)
      | (go_at_call 23; refine (rorder_any _ _ _ _ _ hr1 ((hJ.below BA).below hb1)).mono ?_; rintro e w2 ⟨rfl, hb2⟩; rw [cmpI_eq rfl]))
    go_wp2
    go_ret
    have B1 := BA.trans (hb1.mono BA.size)
    exact ⟨rfl, B1.trans (hb2.mono B1.size)⟩
  · have h0' : decide ((0 : Int) < (n : Int)) = true := by rw [decide_eq_true_eq]; omega
    have h1' : decide (0 < n) = true := by rw [decide_eq_true_eq]; omega
    have BA : Below w.heap.size w ((w.alloc (.cells #[.bool p, .slice ao n c] 31)).alloc (.cells #[.bool p, .slice bo m d] 26)).drew := (hA _ _).drew
    clear hzero
    go_enter Try.func9, Try.ntmps9
    go_wp2
    first
    | go_region_with (first
      | (go_at_call 22; refine (hR _ BA).mono ?_; rintro e w0 ⟨rfl, hw⟩; subst hw)
      | (go_at_call 8; refine (rfrom_any _ _ _ _ (hI.below BA) (Nat.le_refl _)).mono ?_; rintro e w1 ⟨r1, rfl, hr1, hb1⟩; obtain ⟨d1, d2, d3, d4⟩ := keep4 hb1 (by simp) hSS)
      | (go_at_call 23; refine (rorder_any _ _ _ _ _ hr1 ((hJ.below BA).below hb1)).mono ?_; rintro e w2 ⟨rfl, hb2⟩; rw [cmpI_eq rfl]))
    | fail
    all_goals
      go_wp2
      go_ret
      have B1 := BA.trans (hb1.mono BA.size)
      exact ⟨rfl, B1.trans (hb2.mono B1.size)⟩

set_option maxRecDepth 20000 in
set_option maxHeartbeats 400000 in
theorem wfew_any (neg : Bool) (s : Value) (n K : Nat) (f : Nat → Int) (w : World) (h : Raw w s n f) (hK : K ≤ 1000) :
    Calls Try.prog 6 #[.agg #[.bool neg, s], .int .i64 (K : Int)] w fun e w' => ∃ ao c, e = .returned (.agg #[.bool neg, .slice ao (min n K) c]) ∧ Nums .u64 w' (.slice ao (min n K) c) (min n K) f ∧ U64 (min n K) f ∧ Below w.heap.size w w' := by
  have hA : ∀ o o', Below w.heap.size w ((w.alloc o).alloc o') := fun o o' => ((Below.refl _ _).alloc (Nat.le_refl _) _).alloc (by simp) _
  obtain ⟨ao, c, rfl, hnil, hnc, hcm, hu, h4⟩ := h
  unfold maxLen at hcm
  by_cases hlt : K < n
  · obtain ⟨b, off, rfl, hc⟩ := h4 (by omega)
    have hN : Nums .u64 w (.slice (some ⟨b, off, none⟩) K c) K f := ⟨_, _, rfl, by omega, by unfold LIM; omega, fun _ => ⟨_, _, rfl, hc.mono (by omega)⟩⟩
    have hi : (K : Int) < (n : Int) := by omega
    go_enter Try.func6, Try.ntmps6
    go_wp2
    rw [show min n K = K by omega]
    refine bodyPost_ret (v := .agg #[.bool neg, .slice (some ⟨b, off, none⟩) K c]) (by simp [results, go_sem]) rfl ?_
    exact ⟨_, _, rfl, hN.below (hA _ _), fun i hi => hu i (by omega), hA _ _⟩
  · have hN : Nums .u64 w (.slice ao n c) n f := ⟨_, _, rfl, hnc, by unfold LIM; omega, h4⟩
    have hi : ¬ (K : Int) < (n : Int) := by omega
    go_enter Try.func6, Try.ntmps6
    go_wp2
    rw [show min n K = n by omega]
    refine bodyPost_ret (v := .agg #[.bool neg, .slice ao n c]) (by simp [results, go_sem]) rfl ?_
    exact ⟨_, _, rfl, hN.below (hA _ _), hu, hA _ _⟩


theorem nl10_le (x n : Nat) (h : nl W32 x ≤ n) : nl 10000 x ≤ 3 * n := nl_small x n (Nat.lt_of_lt_of_le (lt_pow_nl W32 x (by decide)) (Nat.pow_le_pow_right (by decide) h))
theorem ztxt_q : (ztxt (-4)).toList = [45, 52] := by
  have e : ndec 4 = 1 := by unfold ndec; rw [nl_spec 10 _ 1 (by decide) (by decide)]; decide +kernel
  rw [Lib.toList_data]
  show (({ data := #[45] } : ByteArray) ++ txt 4).data.toList = _
  rw [ByteArray.data_append, Array.toList_append]
  unfold txt; rw [e, strOfNums_data]; decide +kernel
theorem ztxt_r : (ztxt 1).toList = [49] := by
  have e : ndec 1 = 1 := by unfold ndec; rw [nl_spec 10 _ 1 (by decide) (by decide)]; decide +kernel
  rw [Lib.toList_data]
  show (txt 1).data.toList = _
  unfold txt; rw [e, strOfNums_data]; decide +kernel
theorem nl_small7 (k : Nat) (h : k < 4294967296) : nl W32 k ≤ 1 := nl_le W32 k 1 (by decide) (by unfold W32; omega)

set_option maxRecDepth 20000 in
set_option maxHeartbeats 2000000 in
theorem wawake_any (w : World) : Calls Try.prog 11 #[] w fun e w' => e = .returned (.bool true) ∧ Below w.heap.size w w' := by
  go_enter Try.func11, Try.ntmps11
  go_wp2_with fail
  refine (wof_any _ _ (by omega) (by omega)).mono ?_
  rintro e w1 ⟨v1, rfl, hv1, hb1⟩
  go_wp2_with fail
  refine (wof_any _ _ (by omega) (by omega)).mono ?_
  rintro e w2 ⟨v2, rfl, hv2, hb2⟩
  go_wp2_with fail
  refine (wdivMod_any _ _ _ _ 1 1 _ ((hv1.below hb2).at 1 (nl_small7 _ (by decide))) (hv2.at 1 (nl_small7 _ (by decide))) (by omega) (by omega)).mono ?_
  rintro e w3 ⟨q, r, rfl, hq, hr, hb3⟩
  rw [show Int.fdiv (-7) 2 = -4 from rfl] at hq
  rw [show Int.fmod (-7) 2 = 1 from rfl] at hr
  have B1 := hb1
  have B2 := B1.trans (hb2.mono B1.size)
  have B3 := B2.trans (hb3.mono B2.size)
  have hA : ∀ o o', Below w3.heap.size w3 ((w3.alloc o).alloc o') := fun o o' => ((Below.refl _ _).alloc (Nat.le_refl _) _).alloc (by simp) _
  have tq := ztxt_q
  have tr := ztxt_r
  clear hv1 hv2 hb1 hb2 hb3 B1 B2
  obtain ⟨b1, ao1, n1, c1, rfl⟩ := hq.open
  obtain ⟨b2, ao2, n2, c2, rfl⟩ := hr.open
  go_wp2_with fail
  refine (wprint_any _ _ 1 _ ((hq.below (hA _ _)).at 1 (nl_small7 _ (by decide))) (by omega)).mono ?_
  rintro e w4 ⟨rfl, hb4⟩
  obtain ⟨d1, d2, _, _⟩ := keepW hb4 (by simp) (res1 w3 _ _ _ _)
  go_wp2_with fail
  refine (wprint_any _ _ 1 _ (((hr.below (hA _ _)).below hb4).at 1 (nl_small7 _ (by decide))) (by omega)).mono ?_
  rintro e w5 ⟨rfl, hb5⟩
  have B4 := (B3.trans ((hA _ _).mono B3.size)).trans (hb4.mono (by have := B3.size; simp; omega))
  have B5 := B4.trans (hb5.mono B4.size)
  go_wp2
  go_ret
  exact ⟨rfl, B5⟩

end Go.Proofs.Ytlegcekklknjhaa
