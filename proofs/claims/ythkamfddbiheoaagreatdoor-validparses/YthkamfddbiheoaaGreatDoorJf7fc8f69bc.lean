/-
  Texts of mine.
-/
import Derived.Test.YthkamfddbiheoaaGreatDoorJfe5aa2a396
import Derived.RegionTactic
import Derived.Deep.RegionWith
namespace Go.Proofs.YthkamfddbiheoaaGreatDoor
open Go.RowKit

theorem divLimb_step (B : Nat) (f h : Nat → Int) (n k : Nat) (r d x : Int) (hk : k < n) (hh : h k = f k) (hx : x = r * B + f k)
  (hv : val B f n = val B f (k + 1) + (val B h n - val B f (k + 1)) * d + r * (B : Int) ^ (k + 1)) :
  val B f n = val B f k + (val B (put h k (x / d)) n - val B f k) * d + x % d * (B : Int) ^ k := by
 rw [val_put B h n k _ hk, hh]
 have e1 : (B : Int) ^ (k + 1) = B * (B : Int) ^ k := by rw [Int.pow_succ, Int.mul_comm]
 rw [hv, e1]
 simp only [val]
 have e2 := Int.emod_add_mul_ediv x d
 generalize (B : Int) ^ k = p at *
 generalize val B f k = a
 generalize val B h n = b
 have e3 : r * (B * p) = x * p - f k * p := by rw [hx, Int.add_mul, Int.mul_assoc]; omega
 have e4 : x * p = x % d * p + d * (x / d) * p := by rw [← Int.add_mul, e2]
 have e5 : (b + (x / d - f k) * p - a) * d = b * d + d * (x / d) * p - f k * p * d - a * d := by
  rw [Int.sub_mul, Int.add_mul, Int.sub_mul, Int.sub_mul]
  have : x / d * p * d = d * (x / d) * p := by rw [Int.mul_assoc, Int.mul_comm p d, ← Int.mul_assoc, Int.mul_comm (x / d) d]
  omega
 have e6 : (b - (a + f k * p)) * d = b * d - a * d - f k * p * d := by rw [Int.sub_mul, Int.add_mul]; omega
 rw [e3, e4, e5, e6]; omega

set_option maxRecDepth 20000 in
set_option maxHeartbeats 1000000 in
theorem divLimb_pos (g off n c : Nat) (f : Nat → Int) (d : Int) (w : World) (hl : n ≤ LIM) (hc : Cells w .u64 g off n f) (hs : Soft w g off n) (hf : U32 n f) (h0 : 0 < d) (h1 : d < 4294967296) :
  Calls Tryz.prog 167 #[.slice (some ⟨g, off, none⟩) n c, .int .u64 d] w fun e w' => ∃ (r : Int) (h : Nat → Int), e = .returned (.int .u64 r) ∧ 0 ≤ r ∧ r < d ∧
   Cells w' .u64 g off n h ∧ U32 n h ∧ val W32 f n = val W32 h n * d + r ∧ Upd w w' g off n := by
 unfold LIM at hl
 have hd0 : ¬ d = 0 := by omega
 go_enter Tryz.func167, Tryz.ntmps167
 go_wp2
 go_loopw [5, 6] (fun vr vi wr => ∃ (k : Nat) (r : Int) (h : Nat → Int), k ≤ n ∧ vr = .int .u64 r ∧ vi = .int .i64 ((k : Int) - 1) ∧ 0 ≤ r ∧ r < d ∧ Cells wr .u64 g off n h ∧ U32 n h ∧ (∀ i, i < k → h i = f i) ∧
   val W32 f n = val W32 f k + (val W32 h n - val W32 f k) * d + r * (W32 : Int) ^ k ∧ Upd w wr g off n) (fun _ vi _ => (intOf vi + 1).toNat)
 case atStart => exact ⟨n, 0, f, Nat.le_refl _, rfl, rfl, Int.le_refl _, h0, hc, hf, fun _ _ => rfl, by simp, Upd.refl _ _ _ _⟩
 case round =>
  obtain ⟨k, r, h, hk, rfl, rfl, hr0, hr1, hck, huk, hsame, hv, hupd⟩ := hrel
  have HV : Hid (val W32 f n = val W32 f k + (val W32 h n - val W32 f k) * d + r * (W32 : Int) ^ k) := hv
  have HS : Hid (∀ i, i < k → h i = f i) := hsame
  clear hv hsame
  cases k with
  | zero =>
   go_wp2
   go_ret
   exact ⟨r, h, rfl, hr0, hr1, hck, huk, by have := HV.out; simpa [val] using this, hupd⟩
  | succ k =>
   have hcell := hck k (by omega)
   have hfr := (hs.upd (hc.lt (by omega)) hupd) k (by omega)
   have bf := hf k (by omega)
   have hkf := HS.out k (by omega)
   rw [hkf] at hcell
   unfold W32 at bf
   have e1 : (((k + 1 : Nat) : Int) - 1) = (k : Int) := by omega
   rw [e1]
   have hor := or_join' r (f k) hr0 (by omega) bf.1 bf.2
   have HKF : Hid (h k = f k) := hkf
   clear hkf
   go_wp2
   go_region
   go_wp2
   go_roundw
   case rel =>
    have q0 : 0 ≤ (r * 4294967296 + f k) / d := Int.ediv_nonneg (by omega) (by omega)
    have q1 : (r * 4294967296 + f k) / d < 4294967296 := by
     apply Int.ediv_lt_of_lt_mul h0
     have := Int.mul_le_mul_of_nonneg_right (show r + 1 ≤ d by omega) (show (0 : Int) ≤ 4294967296 by omega)
     rw [Int.mul_comm 4294967296 d]; omega
    refine ⟨k, (r * 4294967296 + f k) % d, put h k ((r * 4294967296 + f k) / d), by omega, rfl, rfl, Int.emod_nonneg _ hd0, Int.emod_lt_of_pos _ h0, hck.set k (by omega) _, put_bounds huk q0 (by unfold W32; omega), ?_, ?_, ?_⟩
    ·intro i hi; rw [put_other _ _ _ _ (by omega)]; exact HS.out i (by omega)
    ·exact divLimb_step W32 f h n k r d _ (by omega) HKF.out rfl HV.out
    ·exact (hupd.trans (Upd.set k (by omega) _)).drew
   case measure => simp [intOf]

set_option maxRecDepth 20000 in
set_option maxHeartbeats 400000 in
theorem divLimb_nil (ao : Option Addr) (c : Nat) (d : Int) (w : World) :
  Calls Tryz.prog 167 #[.slice ao 0 c, .int .u64 d] w fun e w' => e = .returned (.int .u64 0) ∧ w' = w := by
 go_enter Tryz.func167, Tryz.ntmps167
 go_wp2
 go_rounds 1
 go_ret
 exact ⟨rfl, rfl⟩

/-- A row of limbs in memory of the call's own, divided in place: what is left of it is the quotient's limbs (zeros may stand on top), and the rest is answered. -/
theorem divLimb_mine (B : Nat) (v : Value) (n : Nat) (f : Nat → Int) (d : Int) (w : World) (hm : Mine .u64 B w v n f) (hBw : B ≤ w.heap.size) (hf : U32 n f) (h0 : 0 < d) (h1 : d < 4294967296) :
  Calls Tryz.prog 167 #[v, .int .u64 d] w fun e w' => ∃ (r : Int) (h : Nat → Int), e = .returned (.int .u64 r) ∧ 0 ≤ r ∧ r < d ∧
   Mine .u64 B w' v n h ∧ U32 n h ∧ val W32 f n = val W32 h n * d + r ∧ Below B w w' := by
 obtain ⟨ao, c, rfl, hnc, hl, h4⟩ := hm
 by_cases hn : n = 0
 ·subst hn
  refine (divLimb_nil ao c d w).mono fun e w' ⟨he, hw⟩ => ?_
  subst hw
  exact ⟨0, f, he, Int.le_refl _, h0, ⟨_, _, rfl, hnc, hl, h4⟩, hf, by simp [val], Below.refl _ _⟩
 ·obtain ⟨b, off, rfl, hc, hs, hB⟩ := h4 (by omega)
  refine (divLimb_pos b off n c f d w hl hc hs hf h0 h1).mono fun e w' ⟨r, h, he, hr0, hr1, hch, huh, hvh, hupd⟩ => ?_
  exact ⟨r, h, he, hr0, hr1, ⟨_, _, rfl, hnc, hl, fun _ => ⟨_, _, rfl, hch, hs.upd (hc.lt (by omega)) hupd, hB⟩⟩, huh, hvh, hupd.below hB hBw⟩

theorem num_nl (m : Nat) : num (dg W32 m) (nl W32 m) = m := num_dg m _ (lt_pow_nl W32 m (by decide))

theorem cmp_rep (u v : Value) (x y : Nat) (w : World) (hu : Rep w u x) (hv : Rep w v y) :
  Calls Tryz.prog 97 #[u, v] w fun e w' => e = .returned (.int .i64 (cmpI x y)) ∧ Below w.heap.size w w' := by
 have h := cmp_any u v _ _ _ _ w hu hv (u64_dg x _) (u64_dg y _)
 rw [num_nl, num_nl] at h; exact h

theorem clean_rep (u : Value) (x : Nat) (w : World) (hu : Rep w u x) :
  Calls Tryz.prog 117 #[u] w fun e w' => ∃ v', e = .returned v' ∧ RepM w.heap.size w' v' x ∧ Below w.heap.size w w' := by
 have h := clean_any u _ _ w hu (u64_dg x _)
 rw [num_nl] at h; exact h

theorem toV_nl (m : Nat) (h : nl W32 m ≤ 2) : toV (dg W32 m) (nl W32 m) = m := by
 have hs : sz (lo (dg W32 m)) (nl W32 m) = nl W32 m := by rw [num_sz, num_nl]
 have hv := val_nl W32 m (by decide)
 have b0 := dg_bounds W32 m 0 (by decide)
 have b1 := dg_bounds W32 m 1 (by decide)
 unfold W32 at b0 b1
 unfold toV at0
 rw [hs, if_pos h]
 rcases (show nl W32 m = 0 ∨ nl W32 m = 1 ∨ nl W32 m = 2 by omega) with e | e | e
 ·rw [e] at hv ⊢; simp [val] at hv ⊢; omega
 ·rw [e] at hv ⊢; simp [val] at hv ⊢; unfold W32 at *; omega
 ·rw [e] at hv ⊢; simp [val] at hv ⊢; unfold W32 at *; omega

theorem to_rep (u : Value) (x : Nat) (w : World) (hu : Rep w u x) (h : nl W32 x ≤ 2) :
  Calls Tryz.prog 120 #[u] w fun e w' => e = .returned (.tuple #[.int .u64 x, .bool true]) ∧ w' = w := by
 have g := to_any u _ _ w hu (u64_dg x _)
 have hs : sz (lo (dg W32 x)) (nl W32 x) = nl W32 x := by rw [num_sz, num_nl]
 rw [toV_nl x h, hs, decide_eq_true h] at g; exact g

set_option maxRecDepth 20000 in
set_option maxHeartbeats 400000 in
theorem divide_less (u v : Value) (x y : Nat) (w : World) (hu : Rep w u x) (hv : Rep w v y) (h : x < y) :
  Calls Tryz.prog 119 #[u, v] w fun e w' => ∃ q r, e = .returned (.tuple #[q, r]) ∧ RepM w.heap.size w' q (x / y) ∧ RepM w.heap.size w' r (x % y) ∧ Below w.heap.size w w' := by
 have hc : cmpI x y = -1 := cmpI_lt (by omega)
 go_enter Tryz.func119, Tryz.ntmps119
 go_wp2_with fail
 refine (cmp_rep _ _ _ _ _ hu hv).mono ?_
 rintro e w1 ⟨rfl, hb1⟩
 rw [hc]
 go_wp2_with fail
 refine (clean_rep _ _ _ (Nums.below hu hb1)).mono ?_
 rintro e w2 ⟨r, rfl, hr, hb2⟩
 go_wp2
 go_ret2
 have := hb1.size
 refine ⟨_, _, rfl, ?_, ?_, hb1.trans (hb2.mono (by omega))⟩
 ·rw [Nat.div_eq_of_lt h]; unfold RepM; rw [nl_zero]; exact Mine.nil _ _ _ _
 ·rw [Nat.mod_eq_of_lt h]; exact hr.le (by omega)

theorem quo_rem (x y : Nat) (r q : Int) (hy : 0 < y) (h0 : 0 ≤ r) (h1 : r < y) (h : (x : Int) = q * y + r) : q = ((x / y : Nat) : Int) ∧ r = ((x % y : Nat) : Int) := by
 have e1 : (x : Int) / y = q := by
  rw [h, Int.add_comm, Int.add_mul_ediv_right _ _ (by omega), Int.ediv_eq_zero_of_lt h0 h1]; omega
 have e2 : (x : Int) % y = r := by
  rw [h, Int.add_comm, Int.add_mul_emod_self_right, Int.emod_eq_of_lt h0 h1]
 exact ⟨by rw [Int.natCast_ediv, e1], by rw [Int.natCast_emod, e2]⟩

set_option maxRecDepth 20000 in
set_option maxHeartbeats 1000000 in
theorem divide_limb (u v : Value) (x y : Nat) (w : World) (hu : Rep w u x) (hv : Rep w v y) (h : y ≤ x) (h2 : 2 < nl W32 x) (hy1 : nl W32 y = 1) :
  Calls Tryz.prog 119 #[u, v] w fun e w' => ∃ q r, e = .returned (.tuple #[q, r]) ∧ RepM w.heap.size w' q (x / y) ∧ RepM w.heap.size w' r (x % y) ∧ Below w.heap.size w w' := by
 have hc : ¬ cmpI x y < 0 := by unfold cmpI; rw [if_neg (by omega)]; split <;> omega
 have hd := val_nl W32 y (by decide)
 have hdb := dg_bounds W32 y 0 (by decide)
 rw [hy1] at hd
 simp [val] at hd
 have hypos : 0 < y := by
  rcases Nat.eq_zero_or_pos y with e | e
  ·subst e; rw [nl_zero] at hy1; omega
  ·exact e
 have hu0 := hu
 have hv0 := hv
 obtain ⟨ao, c, rfl, hl⟩ := rep_val hu0
 obtain ⟨bo, d, rfl, _, kl, k4⟩ := hv0
 obtain ⟨b2, o2, rfl, kc⟩ := k4 (by omega)
 have kcell := kc 0 (by omega)
 rw [hd, Nat.add_zero] at kcell
 have hb2 := kc.lt (by omega)
 rw [hd] at hdb
 unfold W32 at hdb
 have HD : Hid (dg W32 y 0 = (y : Int)) := hd
 clear hd hu0 k4 kc
 rw [hy1] at *
 go_enter Tryz.func119, Tryz.ntmps119
 go_wp2_with fail
 refine (cmp_rep _ _ _ _ _ hu hv).mono ?_
 rintro e w1 ⟨rfl, hb1⟩
 have s1 := hb1.size
 go_wp2_with fail
 refine (clean_rep _ _ _ (Nums.below hu hb1)).mono ?_
 rintro e w2 ⟨q, rfl, hq, hbq⟩
 have s2 := hbq.size
 have kcell2 : w2.cell? ⟨b2, o2, none⟩ = some (.int .u64 (y : Int)) := (hbq.cell (by exact Nat.lt_of_lt_of_le hb2 s1)).trans ((hb1.cell (by exact hb2)).trans kcell)
 clear kcell
 go_wp2_with fail
 refine (divLimb_mine _ _ _ _ _ _ hq s2 (u32_dg _ _) (by omega) (by omega)).mono ?_
 rintro e w3 ⟨r, h, rfl, hr0, hr1, hmine, huh, hvh, bel23⟩
 rw [val_nl W32 x (by decide)] at hvh
 obtain ⟨hq1, hr2⟩ := quo_rem x y r _ hypos hr0 hr1 hvh
 have hQ : Hid (val W32 h (nl W32 x) = ((x / y : Nat) : Int)) := hq1
 have hR : Hid (r = ((x % y : Nat) : Int)) := hr2
 have bel3 : Below w.heap.size w w3 := hb1.trans ((hbq.mono (by omega)).trans (bel23.mono (by omega)))
 clear hq1 hr2 hvh kcell2
 go_wp2_with (first | (go_at_call 168; refine (cut_mine _ _ _ _ _ (x / y) hmine huh hQ.out).mono ?_; rintro e w4 ⟨q2, rfl, hq2, rfl⟩) | (go_at_call 84; refine (of_any _ _ hr0 (by omega)).mono ?_; rintro e w5 ⟨r2, rfl, hr2, hb5⟩))
 go_ret2
 have s4 := bel3.size
 rw [show r.toNat = x % y by rw [hR.out]; rfl] at hr2
 exact ⟨_, _, rfl, (hq2.below hb5).le (by omega), hr2.le (by omega), bel3.trans (hb5.mono (by omega))⟩

/-- What nat.divide is to answer of x and y. -/
def DivideOk (x y : Nat) : Prop := ∀ (u v : Value) (w : World), Rep w u x → Rep w v y →
  Calls Tryz.prog 119 #[u, v] w fun e w' => ∃ q r, e = .returned (.tuple #[q, r]) ∧ RepM w.heap.size w' q (x / y) ∧ RepM w.heap.size w' r (x % y) ∧ Below w.heap.size w w'

set_option maxRecDepth 20000 in
set_option maxHeartbeats 1000000 in
theorem divMod_of (u v : Value) (n m : Nat) (f g : Nat → Int) (w : World) (hu : Nums .u64 w u n f) (hv : Nums .u64 w v m g) (hf : U64 n f) (hg : U64 m g) (h0 : num g m ≠ 0) (hd : DivideOk (num f n) (num g m)) :
  Calls Tryz.prog 82 #[u, v] w fun e w' => ∃ q r, e = .returned (.tuple #[q, r, .int .i64 0]) ∧ RepM w.heap.size w' q (num f n / num g m) ∧ RepM w.heap.size w' r (num f n % num g m) ∧ Below w.heap.size w w' := by
 have hz : decide (sz (lo g) m = 0) = false := by
  rw [num_sz]; simp only [decide_eq_false_iff_not]; rw [nl_eq_zero W32 _ (by decide)]; exact h0
 go_enter Tryz.func82, Tryz.ntmps82
 go_wp2_with fail
 refine (zero_any _ _ _ _ hv hg).mono ?_
 rintro e w0 ⟨rfl, rfl⟩
 rw [hz]
 go_wp2_with fail
 refine (plain_any _ _ _ _ hu hf).mono ?_
 rintro e w1 ⟨r1, rfl, hr1, hb1⟩
 go_wp2_with fail
 refine (plain_any _ _ _ _ (hv.below hb1) hg).mono ?_
 rintro e w2 ⟨r2, rfl, hr2, hb2⟩
 go_wp2_with fail
 refine (hd _ _ _ (Nums.below hr1 hb2) hr2).mono ?_
 rintro e w3 ⟨q, r, rfl, hq, hr, hb3⟩
 go_wp2
 go_ret3
 have := hb1.size
 have := hb2.size
 exact ⟨_, _, rfl, hq.le (by omega), hr.le (by omega), hb1.trans ((hb2.mono (by omega)).trans (hb3.mono (by omega)))⟩

end Go.Proofs.YthkamfddbiheoaaGreatDoor
