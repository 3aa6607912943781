/-
  What nat.divideByLimb leaves and answers: the quotient in place, and the rest.
-/
import Derived.Test.YthhabammejkjcaaDoorMul
import Derived.RegionTactic
namespace Go.Proofs.YthhabammejkjcaaDoor
open Go.RowKit

theorem divLimb_step (B : Nat) (f h : Nat → Int) (n k : Nat) (r d x : Int) (hk : k < n) (hh : h k = f k) (hx : x = r * B + f k)
    (hv : val B f n = val B f (k + 1) + (val B h n - val B f (k + 1)) * d + r * (B : Int) ^ (k + 1)) :
    val B f n = val B f k + (val B (put h k (x / d)) n - val B f k) * d + x % d * (B : Int) ^ k := by
  rw [val_put B h n k _ hk, hh]
  have e1 : (B : Int) ^ (k + 1) = B * (B : Int) ^ k := by rw [Int.pow_succ, Int.mul_comm]
  rw [hv, e1]
  simp only [val]
  have e2 := Int.emod_add_mul_ediv x d
  generalize (B : Int) ^ k = p at *
  generalize val B f k = a
  generalize val B h n = b
  have e3 : r * (B * p) = x * p - f k * p := by rw [hx, Int.add_mul, Int.mul_assoc]; omega
  have e4 : x * p = x % d * p + d * (x / d) * p := by rw [← Int.add_mul, e2]
  have e5 : (b + (x / d - f k) * p - a) * d = b * d + d * (x / d) * p - f k * p * d - a * d := by
    rw [Int.sub_mul, Int.add_mul, Int.sub_mul, Int.sub_mul]
    have : x / d * p * d = d * (x / d) * p := by rw [Int.mul_assoc, Int.mul_comm p d, ← Int.mul_assoc, Int.mul_comm (x / d) d]
    omega
  have e6 : (b - (a + f k * p)) * d = b * d - a * d - f k * p * d := by rw [Int.sub_mul, Int.add_mul]; omega
  rw [e3, e4, e5, e6]; omega

set_option maxRecDepth 20000 in
set_option maxHeartbeats 1000000 in
theorem divLimb_pos (g off n c : Nat) (f : Nat → Int) (d : Int) (w : World) (hl : n ≤ LIM) (hc : Cells w .u64 g off n f) (hs : Soft w g off n) (hf : U32 n f) (h0 : 0 < d) (h1 : d < 4294967296) :
    Calls Tryd.prog 62 #[.slice (some ⟨g, off, none⟩) n c, .int .u64 d] w fun e w' => ∃ (r : Int) (h : Nat → Int), e = .returned (.int .u64 r) ∧ 0 ≤ r ∧ r < d ∧
      Cells w' .u64 g off n h ∧ U32 n h ∧ val W32 f n = val W32 h n * d + r ∧ Upd w w' g off n := by
  unfold LIM at hl
  have hd0 : ¬ d = 0 := by omega
  go_enter Tryd.func62, Tryd.ntmps62
  go_wp2
  go_loopw [5, 6] (fun vr vi wr => ∃ (k : Nat) (r : Int) (h : Nat → Int), k ≤ n ∧ vr = .int .u64 r ∧ vi = .int .i64 ((k : Int) - 1) ∧ 0 ≤ r ∧ r < d ∧ Cells wr .u64 g off n h ∧ U32 n h ∧ (∀ i, i < k → h i = f i) ∧
      val W32 f n = val W32 f k + (val W32 h n - val W32 f k) * d + r * (W32 : Int) ^ k ∧ Upd w wr g off n) (fun _ vi _ => (intOf vi + 1).toNat)
  case atStart => exact ⟨n, 0, f, Nat.le_refl _, rfl, rfl, Int.le_refl _, h0, hc, hf, fun _ _ => rfl, by simp, Upd.refl _ _ _ _⟩
  case round =>
    obtain ⟨k, r, h, hk, rfl, rfl, hr0, hr1, hck, huk, hsame, hv, hupd⟩ := hrel
    have HV : Hid (val W32 f n = val W32 f k + (val W32 h n - val W32 f k) * d + r * (W32 : Int) ^ k) := hv
    have HS : Hid (∀ i, i < k → h i = f i) := hsame
    clear hv hsame
    cases k with
    | zero =>
      go_wp2
      go_ret
      exact ⟨r, h, rfl, hr0, hr1, hck, huk, by have := HV.out; simpa [val] using this, hupd⟩
    | succ k =>
      have hcell := hck k (by omega)
      have hfr := (hs.upd (hc.lt (by omega)) hupd) k (by omega)
      have bf := hf k (by omega)
      have hkf := HS.out k (by omega)
      rw [hkf] at hcell
      unfold W32 at bf
      have e1 : (((k + 1 : Nat) : Int) - 1) = (k : Int) := by omega
      rw [e1]
      have hor := or_join' r (f k) hr0 (by omega) bf.1 bf.2
      have HKF : Hid (h k = f k) := hkf
      clear hkf
      go_wp2
      go_region
      go_wp2
      go_roundw
      case rel =>
        have q0 : 0 ≤ (r * 4294967296 + f k) / d := Int.ediv_nonneg (by omega) (by omega)
        have q1 : (r * 4294967296 + f k) / d < 4294967296 := by
          apply Int.ediv_lt_of_lt_mul h0
          have := Int.mul_le_mul_of_nonneg_right (show r + 1 ≤ d by omega) (show (0 : Int) ≤ 4294967296 by omega)
          rw [Int.mul_comm 4294967296 d]; omega
        refine ⟨k, (r * 4294967296 + f k) % d, put h k ((r * 4294967296 + f k) / d), by omega, rfl, rfl, Int.emod_nonneg _ hd0, Int.emod_lt_of_pos _ h0, hck.set k (by omega) _, put_bounds huk q0 (by unfold W32; omega), ?_, ?_, ?_⟩
        · intro i hi; rw [put_other _ _ _ _ (by omega)]; exact HS.out i (by omega)
        · exact divLimb_step W32 f h n k r d _ (by omega) HKF.out rfl HV.out
        · exact (hupd.trans (Upd.set k (by omega) _)).drew
      case measure => simp [intOf]

set_option maxRecDepth 20000 in
set_option maxHeartbeats 400000 in
theorem divLimb_nil (ao : Option Addr) (c : Nat) (d : Int) (w : World) :
    Calls Tryd.prog 62 #[.slice ao 0 c, .int .u64 d] w fun e w' => e = .returned (.int .u64 0) ∧ w' = w := by
  go_enter Tryd.func62, Tryd.ntmps62
  go_wp2
  go_rounds 1
  go_ret
  exact ⟨rfl, rfl⟩

/-- A row of limbs in memory of the call's own, divided in place: what is left of it is the quotient's limbs (zeros may stand on top), and the rest is answered. -/
theorem divLimb_mine (B : Nat) (v : Value) (n : Nat) (f : Nat → Int) (d : Int) (w : World) (hm : Mine .u64 B w v n f) (hBw : B ≤ w.heap.size) (hf : U32 n f) (h0 : 0 < d) (h1 : d < 4294967296) :
    Calls Tryd.prog 62 #[v, .int .u64 d] w fun e w' => ∃ (r : Int) (h : Nat → Int), e = .returned (.int .u64 r) ∧ 0 ≤ r ∧ r < d ∧
      Mine .u64 B w' v n h ∧ U32 n h ∧ val W32 f n = val W32 h n * d + r ∧ Below B w w' := by
  obtain ⟨ao, c, rfl, hnc, hl, h4⟩ := hm
  by_cases hn : n = 0
  · subst hn
    refine (divLimb_nil ao c d w).mono fun e w' ⟨he, hw⟩ => ?_
    subst hw
    exact ⟨0, f, he, Int.le_refl _, h0, ⟨_, _, rfl, hnc, hl, h4⟩, hf, by simp [val], Below.refl _ _⟩
  · obtain ⟨b, off, rfl, hc, hs, hB⟩ := h4 (by omega)
    refine (divLimb_pos b off n c f d w hl hc hs hf h0 h1).mono fun e w' ⟨r, h, he, hr0, hr1, hch, huh, hvh, hupd⟩ => ?_
    exact ⟨r, h, he, hr0, hr1, ⟨_, _, rfl, hnc, hl, fun _ => ⟨_, _, rfl, hch, hs.upd (hc.lt (by omega)) hupd, hB⟩⟩, huh, hvh, hupd.below hB hBw⟩

end Go.Proofs.YthhabammejkjcaaDoor
