/-
  What nat.guessLimb answers: a limb of a quotient, right or 1 too great.
-/
import Derived.Test.YthhabammejkjcaaDoorKnuth
import Derived.Test.YthhabammejkjcaaDoorShift
import Derived.Test.YthhabammejkjcaaDoorDivSmall
namespace Go.Proofs.YthhabammejkjcaaDoor
open Go.RowKit

set_option maxRecDepth 20000 in
set_option maxHeartbeats 2000000 in
theorem guess_any (gr or_ cr gb ob cb m : Nat) (fr fb : Nat → Int) (w : World) (hm : m ≤ 1000000) (hr : Cells w .u64 gr or_ (m + 3) fr) (hb : Cells w .u64 gb ob (m + 2) fb)
    (ur : U32 (m + 3) fr) (ub : U32 (m + 2) fb) (htop : 2147483648 ≤ fb (m + 1)) (hfit : val W32 fr (m + 3) < val W32 fb (m + 2) * 4294967296) :
    Calls Tryd.prog 89 #[.slice (some ⟨gr, or_, none⟩) (m + 3) cr, .slice (some ⟨gb, ob, none⟩) (m + 2) cb] w fun e w' =>
      ∃ q : Int, e = .returned (.int .u64 q) ∧ (0 ≤ q ∧ q < 4294967296 ∧ val W32 fr (m + 3) < (q + 1) * val W32 fb (m + 2) ∧ q * val W32 fb (m + 2) < val W32 fr (m + 3) + val W32 fb (m + 2)) ∧ Below w.heap.size w w' := by
  have K := kn_rows m fb fr ub ur htop hfit
  have r0 := hr m (by omega)
  have r1 := hr (m + 1) (by omega)
  have r2 := hr (m + 2) (by omega)
  have b0 := hb m (by omega)
  have b1 := hb (m + 1) (by omega)
  have u0 := ur m (by omega)
  have u1 := ur (m + 1) (by omega)
  have u2 := ur (m + 2) (by omega)
  have hrn := K.top rfl u1.1 u1.2
  rw [W32c] at u0 u1 u2
  have HK : Hid (Kn (fb (m + 1)) (fb m) (fr (m + 2) * 4294967296 + fr (m + 1)) (fr m) ((W32 : Int) ^ m) (val W32 fb (m + 2)) (val W32 fr (m + 3))) := K
  have kh0 := K.h0
  have kh1 := K.h1
  have kg0 := K.g0
  have kg1 := K.g1
  clear K hr hb htop hfit ur ub
  generalize val W32 fr (m + 3) = R at *
  generalize val W32 fb (m + 2) = D at *
  generalize fb (m + 1) = h at *
  generalize fb m = g at *
  generalize fr (m + 2) = rn at *
  generalize fr (m + 1) = rm at *
  generalize fr m = e at *
  have hor := or_join' rn rm u2.1 u2.2 u1.1 u1.2
  have hw3 : IntKind.u64.wrap (rn * 4294967296) = rn * 4294967296 := by rw [IntKind.wrap_u64]; omega
  have hT0 : 0 ≤ rn * 4294967296 + rm := by omega
  have hT1 : rn * 4294967296 + rm < 18446744073709551616 := by omega
  have i1 : ((m : Int) + 2 - 1) = (m : Int) + 1 := by omega
  have i2 : ((m : Int) + 2 - 2) = (m : Int) := by omega
  go_enter Tryd.func89, Tryd.ntmps89
  go_wp2
  go_quiet (fail)
  go_wp2
  go_quiet (fail)
  go_wp2
  generalize hT : rn * 4294967296 + rm = T at *
  have hne : ¬ h = 0 := by omega
  have htm : T.tmod h = T % h := Int.tmod_eq_emod_of_nonneg hT0
  have htd := wrap_tdiv T h hT0 hT1 (by omega)
  go_quiet (fail)
  generalize hWw : ((w.drewN _).drewN _).drewN _ = w3
  have hbw : Below w.heap.size w w3 := by rw [← hWw]; exact below_drewN (below_drewN (below_drewN (Below.refl _ _) _) _) _
  have hTb : T ≤ h * 4294967296 + 4294967295 := by omega
  have hq0 : 0 ≤ T / h := Int.ediv_nonneg hT0 (by omega)
  have hdm : Hid (T / h * h + T % h = T) := by show _ = _; have := Int.emod_add_mul_ediv T h; rw [Int.mul_comm]; omega
  have hm0 : 0 ≤ T % h := Int.emod_nonneg _ hne
  have hm1 : T % h < h := Int.emod_lt_of_pos _ (by omega)
  have hst : Hid (R < (T / h + 1) * D) := HK.out.start
  have hqb : T / h ≤ 4294967297 := by
    have : T / h < 4294967298 := Int.ediv_lt_of_lt_mul (by omega) (by omega)
    omega
  have hgr : gr < w.heap.size := World.block_lt_of_cell? _ _ r0
  have HR0 : Hid (w.cell? ⟨gr, or_ + m, none⟩ = some (.int .u64 e)) := r0
  clear htm htd hor hw3 r1 r2 b0 b1 r0 hWw hT
  generalize T / h = q0 at *
  generalize T % h = r0' at *
  go_wp2
  go_loopw [9, 10] (fun vq vr wr => ∃ (q r : Int), vq = .int .u64 q ∧ vr = .int .u64 r ∧ 0 ≤ q ∧ q ≤ 4294967297 ∧ q * h + r = T ∧ 0 ≤ r ∧ r < 4294967296 ∧ R < (q + 1) * D ∧ Below w.heap.size w wr) (fun vq _ _ => (intOf vq).toNat)
  case atStart => exact ⟨q0, r0', rfl, rfl, hq0, hqb, hdm.out, hm0, by omega, hst.out, hbw⟩
  case round =>
    clear hq0 hqb hdm hm0 hm1 hst hbw
    obtain ⟨q, r, rfl, rfl, hq0, hqb, hdm, hr0, hr1, hlt, hbel⟩ := hrel
    have HDM : Hid (q * h + r = T) := hdm
    have HLT : Hid (R < (q + 1) * D) := hlt
    have hcell : wr.cell? ⟨gr, or_ + m, none⟩ = some (.int .u64 e) := (hbel.cell (by exact hgr)).trans HR0.out
    have hstep : Hid ((q - 1) * h + (r + h) = T) := by show _ = _; rw [Int.sub_mul, Int.one_mul]; omega
    clear hdm hlt
    by_cases hbig : 4294967295 < q
    · have hlt' : Hid (R < (q - 1 + 1) * D) := by show R < _; rw [Int.sub_add_cancel]; exact HK.out.big (by omega)
      by_cases hbr : 4294967295 < r + h
      · have hq1 : q < 4294967297 := by
          by_cases c : q < 4294967297
          · exact c
          · exfalso
            have e1 : q = 4294967297 := by omega
            have e2 := HDM.out
            rw [e1] at e2; omega
        go_wp2
        go_ret
        refine ⟨q - 1, rfl, ⟨by omega, by omega, hlt'.out, ?_⟩, hbel⟩
        exact HK.out.done (q := q - 1) (r := r + h) (by omega) (by omega) hstep.out (by
          have := mul_le_mul32 (q - 1) g (by omega) (by omega) kg0 kg1; omega)
      · go_wp2
        go_roundw
        case rel => exact ⟨q - 1, r + h, rfl, rfl, by omega, by omega, hstep.out, by omega, by omega, hlt'.out, hbel⟩
        case measure => simp [intOf]; omega
    · have hqd : decide (4294967295 < q) = false := by simp; omega
      have hxy := mul_le_mul32 q g hq0 (by omega) kg0 kg1
      have hor2 := or_join' r e hr0 hr1 u0.1 u0.2
      by_cases htest : r * 4294967296 + e < q * g
      · have hqp : 0 < q := by
          by_cases c : q = 0
          · rw [c, Int.zero_mul] at htest; omega
          · omega
        have hlt' : Hid (R < (q - 1 + 1) * D) := by show R < _; rw [Int.sub_add_cancel]; exact HK.out.test hq0 HDM.out htest
        by_cases hbr : 4294967295 < r + h
        · go_wp2
          go_ret
          refine ⟨q - 1, rfl, ⟨by omega, by omega, hlt'.out, ?_⟩, hbel⟩
          exact HK.out.done (q := q - 1) (r := r + h) (by omega) (by omega) hstep.out (by
            have := mul_le_mul32 (q - 1) g (by omega) (by omega) kg0 kg1; omega)
        · go_wp2
          go_roundw
          case rel => exact ⟨q - 1, r + h, rfl, rfl, by omega, by omega, hstep.out, by omega, by omega, hlt'.out, hbel⟩
          case measure => simp [intOf]; omega
      · go_wp2
        go_ret
        exact ⟨q, rfl, ⟨hq0, by omega, HLT.out, HK.out.done hq0 (by omega) HDM.out (by omega)⟩, hbel⟩

end Go.Proofs.YthhabammejkjcaaDoor
