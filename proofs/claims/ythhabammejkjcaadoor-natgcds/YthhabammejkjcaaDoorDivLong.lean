/-
  What nat.divideLong answers: quotient and rest by a number of two limbs or more.
-/
import Derived.Test.YthhabammejkjcaaDoorDivStep
import Derived.Test.YthhabammejkjcaaDoorDivMod
namespace Go.Proofs.YthhabammejkjcaaDoor
open Go.RowKit

/-- Shifted up so far that its highest bit is set, a number keeps its limbs' count. -/
theorem norm_num (y m s : Nat) (hm : nl W32 y = m + 2) (hs : s = 32 - Lib.bitLen (dg W32 y (m + 1)).toNat) :
    s ≤ 31 ∧ Lib.bitLen (dg W32 y (m + 1)).toNat = 32 - s ∧ nl W32 (y * 2 ^ s) = m + 2 ∧ 2147483648 ≤ dg W32 (y * 2 ^ s) (m + 1) := by
  have hlt := lt_pow_nl W32 y (by decide)
  have hge := pow_le_of_nl W32 y (by omega)
  rw [hm] at hlt hge
  rw [show m + 2 - 1 = m + 1 by omega] at hge
  have hP : 0 < W32 ^ (m + 1) := Nat.pow_pos (by decide)
  have e2 : W32 ^ (m + 2) = W32 ^ (m + 1) * 4294967296 := Nat.pow_succ _ _
  have etop : (dg W32 y (m + 1)).toNat = y / W32 ^ (m + 1) := by
    unfold dg
    rw [Int.toNat_natCast, Nat.mod_eq_of_lt]
    exact Nat.div_lt_of_lt_mul (by rw [e2] at hlt; exact hlt)
  rw [etop] at hs ⊢
  have hdm := Nat.div_add_mod y (W32 ^ (m + 1))
  have hml := Nat.mod_lt y hP
  have ht1 : 1 ≤ y / W32 ^ (m + 1) := (Nat.le_div_iff_mul_le hP).2 (by omega)
  have ht2 : y / W32 ^ (m + 1) < 4294967296 := Nat.div_lt_of_lt_mul (by rw [e2] at hlt; exact hlt)
  generalize y / W32 ^ (m + 1) = t at *
  generalize y % W32 ^ (m + 1) = r at *
  obtain ⟨b1, b2, b3⟩ := bitLen_pow t (by omega) (by omega)
  have b4 : Lib.bitLen t ≤ 32 := Lib.bitLen_le t 32 (by omega) (by omega)
  generalize Lib.bitLen t = L at *
  generalize hPP : W32 ^ (m + 1) = P at *
  have p1 : 2 ^ (L - 1) * 2 ^ s = 2147483648 := by rw [← Nat.pow_add, show L - 1 + s = 31 by omega]
  have p2 : 2 ^ L * 2 ^ s = 4294967296 := by rw [← Nat.pow_add, show L + s = 32 by omega]
  have hup : y * 2 ^ s < P * 4294967296 := by
    have h1 : y < 2 ^ L * P := by
      have h3 : (t + 1) * P ≤ 2 ^ L * P := Nat.mul_le_mul_right P b2
      rw [Nat.add_mul, Nat.one_mul, Nat.mul_comm t] at h3
      omega
    have h2 : y * 2 ^ s < 2 ^ L * P * 2 ^ s := (Nat.mul_lt_mul_right (Nat.two_pow_pos s)).2 h1
    rw [Nat.mul_right_comm, p2, Nat.mul_comm 4294967296] at h2; exact h2
  have hlo : P * 2147483648 ≤ y * 2 ^ s := by
    have h1 : 2 ^ (L - 1) * P ≤ y := by
      have h3 : 2 ^ (L - 1) * P ≤ t * P := Nat.mul_le_mul_right P b1
      rw [Nat.mul_comm t] at h3; omega
    have h2 : 2 ^ (L - 1) * P * 2 ^ s ≤ y * 2 ^ s := Nat.mul_le_mul_right _ h1
    rw [Nat.mul_right_comm, p1, Nat.mul_comm 2147483648] at h2; exact h2
  refine ⟨by omega, by omega, ?_, ?_⟩
  · have h1 := nl_le W32 (y * 2 ^ s) (m + 2) (by decide) (by rw [e2]; exact hup)
    have h2 := lt_pow_nl W32 (y * 2 ^ s) (by decide)
    by_cases h3 : nl W32 (y * 2 ^ s) ≤ m + 1
    · have h4 : W32 ^ nl W32 (y * 2 ^ s) ≤ W32 ^ (m + 1) := Nat.pow_le_pow_right (by decide) h3
      rw [hPP] at h4
      omega
    · omega
  · unfold dg
    have h1 : y * 2 ^ s / W32 ^ (m + 1) < 4294967296 := Nat.div_lt_of_lt_mul (by rw [hPP]; exact hup)
    have h2 : 2147483648 ≤ y * 2 ^ s / W32 ^ (m + 1) := (Nat.le_div_iff_mul_le (by rw [hPP]; exact hP)).2 (by rw [hPP, Nat.mul_comm]; exact hlo)
    rw [Nat.mod_eq_of_lt h1]; omega

/-- The limbs of a row with others laid from i on. -/
def lay (h h2 : Nat → Int) (i n : Nat) : Nat → Int := fun j => if i ≤ j ∧ j < i + n then h2 (j - i) else h j
theorem lay_low (h h2 : Nat → Int) (i n j : Nat) (hj : j < i) : lay h h2 i n j = h j := by unfold lay; rw [if_neg (by omega)]
theorem lay_in (h h2 : Nat → Int) (i n j : Nat) (hj : j < n) : lay h h2 i n (i + j) = h2 j := by unfold lay; rw [if_pos (by omega), Nat.add_sub_cancel_left]
theorem val_lay (B : Nat) (h h2 : Nat → Int) (i n : Nat) : val B (lay h h2 i n) (i + n) = val B h i + val B h2 n * (B : Int) ^ i := by
  rw [val_add, val_congr i (fun j hj => lay_low h h2 i n j hj), val_congr n (fun j hj => lay_in h h2 i n j hj)]

theorem val_head (B : Nat) (f : Nat → Int) (n : Nat) : val B f (n + 1) = f 0 + val B (fun j => f (j + 1)) n * B := by
  rw [Nat.add_comm, val_add]; simp [val, Nat.add_comm, Int.pow_succ]

/-- One limb of the quotient: what the rows say ahead of a step they say behind it. -/
theorem long_step (B : Nat) (X D : Int) (h h2 g : Nat → Int) (i n N : Nat) (hi : i < N) (hg : g i = 0)
    (hX : X = val B h (i + 1 + n) + D * val B g N) (hr : val B h2 n = val B (fun j => h (i + j)) (n + 1) % D) :
    X = val B (lay h h2 i n) (i + n) + D * val B (put g i (val B (fun j => h (i + j)) (n + 1) / D)) N := by
  have e1 : val B h (i + 1 + n) = val B h i + val B (fun j => h (i + j)) (n + 1) * (B : Int) ^ i := by
    rw [show i + 1 + n = i + (n + 1) by omega, val_add]
  rw [val_lay, val_put B g N i _ hi, hg, Int.sub_zero, hr, hX, e1]
  generalize val B (fun j => h (i + j)) (n + 1) = R
  have h1 := Int.emod_add_mul_ediv R D
  generalize R / D = z at *
  generalize R % D = r at *
  rw [← h1, Int.add_mul, Int.mul_add, Int.mul_assoc]; omega

theorem long_fit (B : Nat) (D : Int) (h : Nat → Int) (i n : Nat) (hb : h i < (B : Int)) (hB : 0 < B) (hl : val B (fun j => h (i + 1 + j)) n < D) : val B (fun j => h (i + j)) (n + 1) < D * B := by
  rw [val_head]
  have e : val B (fun j => h (i + (j + 1))) n = val B (fun j => h (i + 1 + j)) n := val_congr n (fun j _ => by rw [Nat.add_assoc, Nat.add_comm 1])
  rw [e]
  have h1 : (val B (fun j => h (i + 1 + j)) n + 1) * (B : Int) ≤ D * B := Int.mul_le_mul_of_nonneg_right (by omega) (by omega)
  rw [Int.add_mul, Int.one_mul] at h1
  simp only [Nat.add_zero]
  omega

/-- Ahead of the first step what is left of the highest limbs is below the divisor. -/
theorem long_start (x y s la m : Nat) (hx : x < W32 ^ la) (hy : nl W32 y = m + 2) (hle : m + 2 ≤ la) :
    x * 2 ^ s / W32 ^ (la - (m + 2) + 1) < y * 2 ^ s := by
  have h1 := pow_le_of_nl W32 y (by omega)
  rw [hy] at h1
  refine Nat.div_lt_of_lt_mul ?_
  rw [← Nat.mul_assoc]
  refine (Nat.mul_lt_mul_right (Nat.two_pow_pos s)).2 (Nat.lt_of_lt_of_le hx ?_)
  have h2 : W32 ^ (la - (m + 2) + 1) * W32 ^ (m + 2 - 1) ≤ W32 ^ (la - (m + 2) + 1) * y := Nat.mul_le_mul_left _ h1
  rw [← Nat.pow_add, show la - (m + 2) + 1 + (m + 2 - 1) = la by omega] at h2
  exact h2

theorem val_from (B m k n : Nat) : val B (fun j => dg B m (k + j)) n = ((m / B ^ k % B ^ n : Nat) : Int) := by
  rw [← val_dg]
  refine val_congr n (fun j _ => ?_)
  unfold dg
  rw [Nat.pow_add, Nat.div_div_eq_div_mul]

/-- 'copy' of a slice into a block of zeros. -/
theorem copy_at {w1 : World} {g : Nat} {ao : Option Addr} {n c N : Nat} {f : Nat → Int} (ty : TypeId) (hn : n ≤ N) (hsrc : SrcOk w1 ao n f)
    (hblk : w1.heap[g]? = some (.cells (valsOf .u64 (fun _ => 0) N).toArray 51 (0, 0))) (hinf : (Tryd.prog.info? 51).map (·.size) = some 1) :
    ∃ w2, (Builtin.copy_ #[23, 23] ty #[.slice (some ⟨g, 0, none⟩) N N, .slice ao n c]).run Tryd.prog w1 = .ok (goInt n) w2 ∧ Cells w2 .u64 g 0 N (upto f n) ∧ Soft w2 g 0 N ∧ Below g w1 w2 := by
  have hb : Below g w1 w1 := Below.refl _ _
  by_cases h0 : n = 0
  · subst h0
    refine ⟨w1, run_copy_none (P := Tryd.prog) w1 _ _ ty 51 _ _ _ _ _ _ Tryd.underlying23 hinf (Nat.zero_min _), ?_, ?_, hb⟩
    · intro i hi
      rw [Nat.zero_add, cell_of_row w1 _ i _ _ _ hblk, List.getElem?_toArray, valsOf_at _ _ _ _ hi]; simp [upto]
    · intro i _; rw [Nat.zero_add]; exact frozen_of_row w1 _ i _ _ hblk
  · obtain ⟨ad, rfl, hcs⟩ := hsrc w1 (Below.refl _ _) (by rw [valsOf_length]; omega)
    have hrun := run_copy_row (P := Tryd.prog) w1 23 23 ty 51 g 0 N N ad n c _ 51 (valsOf .u64 f n) Tryd.underlying23 hinf hblk (by rw [valsOf_length]; exact (Nat.min_eq_left hn).symm) hcs (by rw [valsOf_length]; simp [valsOf_length]; omega) (vals_one _ _ _)
    rw [valsOf_length] at hrun
    refine ⟨_, hrun, ?_⟩
    have hblk2 := setRow_heap w1 g _ ((valsOf .u64 (fun _ => 0) N).toArray.toList.take 0 ++ valsOf .u64 f n ++ (valsOf .u64 (fun _ => 0) N).toArray.toList.drop (0 + n)).toArray 51 _ hblk
    have hs := splice_cells (w := w1.setRow g ((valsOf .u64 (fun _ => 0) N).toArray.toList.take 0 ++ valsOf .u64 f n ++ (valsOf .u64 (fun _ => 0) N).toArray.toList.drop (0 + n)).toArray) (f := f) (n := n) (N := N) (k := .u64) (e := 51) (by rw [hblk2]; simp [splice, valsOf_length])
    exact ⟨hs.1, hs.2, below_setRow hb (Nat.le_refl _) _⟩

set_option maxRecDepth 20000 in
set_option maxHeartbeats 4000000 in
theorem divLong_any (u v : Value) (x y m : Nat) (w : World) (hu : Rep w u x) (hv : Rep w v y) (hle : m + 2 ≤ nl W32 x) (hy : nl W32 y = m + 2) (hlx : nl W32 x ≤ 999999) :
    Calls Tryd.prog 64 #[u, v] w fun e w' => ∃ q r, e = .returned (.tuple #[q, r]) ∧ RepM w.heap.size w' q (x / y) ∧ RepM w.heap.size w' r (x % y) ∧ Below w.heap.size w w' := by
  obtain ⟨i0, hi, hz0, hz1, hz2⟩ := info_parts info_u64
  have hinf : (Tryd.prog.info? 51).map (·.size) = some 1 := by rw [hi]; simp [hz1]
  have HI := show Hid ((Tryd.prog.info? 51).map (·.size) = some 1) from hinf
  clear hinf
  obtain ⟨s, hs⟩ : ∃ s, s = 32 - Lib.bitLen (dg W32 y (m + 1)).toNat := ⟨_, rfl⟩
  obtain ⟨hs31, hbl, hnlD, htop⟩ := norm_num y m s hy hs
  have hxlt := lt_pow_nl W32 x (by decide)
  have HST := long_start x y s (nl W32 x) m hxlt hy hle
  have HX1 : x * 2 ^ s < W32 ^ (nl W32 x + 1) := by
    rw [Nat.pow_succ]
    have : 2 ^ s < W32 := Nat.lt_of_lt_of_le (Nat.pow_lt_pow_right (by omega) (show s < 32 by omega)) (by decide)
    exact Nat.mul_lt_mul_of_lt_of_lt hxlt this
  have hnlX := nl_le W32 (x * 2 ^ s) _ (by decide) HX1
  have hypos : 0 < y := by
    rcases Nat.eq_zero_or_pos y with e | e
    · subst e; rw [nl_zero] at hy; omega
    · exact e
  have hu0 := hu
  have hv0 := hv
  obtain ⟨ao, c, rfl, hl⟩ := rep_val hu0
  obtain ⟨bo, d, rfl, hbd, kl, k4⟩ := hv0
  obtain ⟨b2, o2, rfl, kc⟩ := k4 (by omega)
  have kcell := kc (m + 1) (by omega)
  have kbnd := dg_bounds W32 y (m + 1) (by decide)
  rw [W32c] at kbnd
  have hb2 := kc.lt (by omega)
  rw [hy] at kl hbd
  clear hu0 k4 kc hs
  have hlead : (32 - (Lib.bitLen (dg W32 y (m + 1)).toNat : Int)) = (s : Int) := by rw [hbl]; omega
  have hlX1 : nl W32 x ≤ 1000000 := by omega
  have hlY1 : nl W32 y ≤ 1000000 := by omega
  have UX := u32_dg (x * 2 ^ s) (nl W32 (x * 2 ^ s))
  have VX := val_nl W32 (x * 2 ^ s) (by decide)
  generalize hla : nl W32 x = la at *
  generalize dg W32 y (m + 1) = t at *
  have hwt : IntKind.u32.wrap t = t := by rw [IntKind.wrap_u32]; omega
  have i1 : ((m : Int) + 2 - 1) = (m : Int) + 1 := by omega
  rw [hy] at hv ⊢
  go_enter Tryd.func64, Tryd.ntmps64
  go_wp2_with (go_at_call 58; refine (lead32_any t _ kbnd.1 (by omega)).mono ?_; rintro e w' ⟨rfl, hw'⟩; have hw2 := hw'.symm; subst hw2; rw [hlead])
  go_wp2_with fail
  refine (shiftUp_any _ y s _ hv hlY1 (by omega)).mono ?_
  rintro e w1 ⟨by_, rfl, hby, hb1⟩
  have s1 := hb1.size
  unfold RepM at hby
  rw [hnlD] at hby
  obtain ⟨bbo, cb, rfl, hcb, _, hby4⟩ := hby
  obtain ⟨gb, ob, rfl, hcD, _, hgB⟩ := hby4 (by omega)
  have hgb1 := hcD.lt (by omega)
  clear hby4
  go_wp2_with (at_make; refine wpList_make_full _ rfl _ _ 23 rfl _ 51 i0 (.int .u64 0) 1 Tryd.underlying23 hi hz0 hz1 _ _ _ _ (la + 1) rfl rfl (by omega) (by omega) (by rw [hz2]; omega) (by unfold maxLen; omega) (Nat.le_refl _) ?_; intro w2 hown hgrow)
  have hblk := made_block hown
  have hb2' := below_grown hgrow
  have s2 := hb2'.size
  have s2' : w1.heap.size < w2.heap.size := by
    have := World.block_lt_of_cell? _ _ ((mine_made (k := .u64) (w := w1) hown (fun _ => 0) (fun i hi => made_zero .u64 (la + 1) i hi)).1 0 (by omega))
    exact this
  clear hown hgrow
  go_wp2_with fail
  refine (shiftUp_any _ x s _ (Nums.below hu (hb1.trans (hb2'.mono s1))) (by rw [hla]; exact hlX1) (by omega)).mono ?_
  rintro e w3 ⟨ra, rfl, hra, hb3⟩
  have s3 := hb3.size
  obtain ⟨ra_o, ra_c, rfl, hrac, hral, hra4⟩ := hra
  have C2 : SrcOk w3 ra_o (nl W32 (x * 2 ^ s)) (dg W32 (x * 2 ^ s)) := srcOk ⟨_, _, rfl, hrac, hral, fun h => let ⟨b, o, e, hc, _⟩ := hra4 h; ⟨b, o, e, hc⟩⟩
  have hblk3 : w3.heap[w1.heap.size]? = _ := (hb3.block _ s2').trans hblk
  clear hra4 hblk
  go_wp2
  obtain ⟨w4, hrun, hc4, hs4, hb4⟩ := copy_at (c := ra_c) 3 hnlX C2 hblk3 HI.out
  rw [hrun]
  clear hrun hblk3
  have s4 := hb4.size
  have hU4 : U32 (la + 1) (upto (dg W32 (x * 2 ^ s)) (nl W32 (x * 2 ^ s))) := fun i _ => by
    unfold upto; split
    · exact UX i (by assumption)
    · exact ⟨Int.le_refl _, by decide⟩
  have hcD4 : Cells w4 .u64 gb ob (m + 2) (dg W32 (y * 2 ^ s)) := ((hcD.below hb2' hgb1).below hb3 (by omega)).below hb4 hgb1
  have bel4 : Below w.heap.size w w4 := hb1.trans ((hb2'.mono s1).trans ((hb3.mono (by omega)).trans (hb4.mono s1)))
  clear hb2' hb3 hb4 C2 hcD
  have dF : ∀ j, j < la + 1 → upto (dg W32 (x * 2 ^ s)) (nl W32 (x * 2 ^ s)) j = dg W32 (x * 2 ^ s) j := by
    intro j _
    unfold upto; split
    · rfl
    · rw [dg_high]
      exact Nat.lt_of_lt_of_le (lt_pow_nl W32 _ (by decide)) (Nat.pow_le_pow_right (by decide) (by omega))
  obtain ⟨N, hN⟩ : ∃ N, N + (m + 1) = la := ⟨la - (m + 1), by omega⟩
  rw [show la - (m + 2) + 1 = N by omega] at HST
  have hc4' : Cells w4 .u64 w1.heap.size 0 (la + 1) (dg W32 (x * 2 ^ s)) := hc4.congr dF
  have hin : (la : Int) - ((m : Int) + 2) + 1 = (N : Int) := by omega
  clear hc4 dF hU4 UX
  go_wp2_with (at_make; refine wpList_make_full _ rfl _ _ 23 rfl _ 51 i0 (.int .u64 0) 1 Tryd.underlying23 hi hz0 hz1 _ _ _ _ N rfl rfl (by omega) (by omega) (by rw [hz2]; omega) (by unfold maxLen; omega) (Nat.le_refl _) ?_; intro w5 hown hgrow)
  have hb5 := below_grown hgrow
  have s5 := hb5.size
  obtain ⟨hc5, hs5⟩ := mine_made (k := .u64) (w := w4) hown (fun _ => 0) (fun i hi => made_zero .u64 N i hi)
  clear hown hgrow
  have hR4 := hc4'.lt (by omega)
  have hc4r := hc4'.below hb5 hR4
  have hs4r := hs4.below hb5 hR4
  have hcD5 := hcD4.below hb5 (by omega)
  have bel5 : Below w.heap.size w w5 := bel4.trans (hb5.mono bel4.size)
  have hwR : w.heap.size ≤ w1.heap.size := s1
  have hwQ : w.heap.size ≤ w4.heap.size := bel4.size
  clear hcD4 hc4' hs4 bel4 hb5 s5 s1 s2 s2' s3 s4 hb1 kcell
  have UD := u32_dg (y * 2 ^ s) (m + 2)
  have VD : Hid (val W32 (dg W32 (y * 2 ^ s)) (m + 2) = ((y * 2 ^ s : Nat) : Int)) := by show _ = _; rw [← hnlD]; exact val_nl W32 _ (by decide)
  have DP : (0 : Int) < ((y * 2 ^ s : Nat) : Int) := by
    have : 0 < y * 2 ^ s := Nat.mul_pos hypos (Nat.two_pow_pos s)
    omega
  have hx0 : Hid (((x * 2 ^ s : Nat) : Int) = val W32 (dg W32 (x * 2 ^ s)) (N + (m + 2)) + ((y * 2 ^ s : Nat) : Int) * val W32 (fun _ => 0) N) := by
    show _ = _
    rw [val_zero N (fun _ _ => rfl), Int.mul_zero, Int.add_zero, val_dg, Nat.mod_eq_of_lt]
    rw [show N + (m + 2) = la + 1 by omega]; exact HX1
  have hx1 : Hid (val W32 (fun j => dg W32 (x * 2 ^ s) (N + j)) (m + 2) < ((y * 2 ^ s : Nat) : Int)) := by
    show _ < _
    rw [val_from]
    have := Nat.mod_le (x * 2 ^ s / W32 ^ N) (W32 ^ (m + 2))
    omega
  have UXX := u32_dg (x * 2 ^ s) (la + 1)
  have HXE : Hid (x * 2 ^ s / (y * 2 ^ s) = x / y) := Nat.mul_div_mul_right _ _ (Nat.two_pow_pos s)
  have HXM : Hid (x * 2 ^ s % (y * 2 ^ s) = x % y * 2 ^ s) := Nat.mul_mod_mul_right _ _ _
  clear HST HX1 VX hnlX
  generalize w1.heap.size = gR at *
  generalize w4.heap.size = gQ at *
  generalize hXX : x * 2 ^ s = X at *
  generalize hDD : y * 2 ^ s = D at *
  go_loopw [10] (fun vi wr => ∃ (k : Nat) (h g : Nat → Int), k ≤ N ∧ vi = .int .i64 ((k : Int) - 1) ∧ Cells wr .u64 gR 0 (la + 1) h ∧ Soft wr gR 0 (la + 1) ∧ U32 (la + 1) h ∧ Cells wr .u64 gQ 0 N g ∧ Soft wr gQ 0 N ∧ U32 N g ∧ (∀ j, j < k → g j = 0) ∧
      (X : Int) = val W32 h (k + (m + 2)) + (D : Int) * val W32 g N ∧ val W32 (fun j => h (k + j)) (m + 2) < (D : Int) ∧ Below w.heap.size w wr ∧ Cells wr .u64 gb ob (m + 2) (dg W32 D)) (fun vi _ => (intOf vi + 1).toNat)
  case atStart => exact ⟨N, dg W32 X, fun _ => 0, Nat.le_refl _, rfl, hc4r, hs4r, UXX, hc5, hs5, fun _ _ => ⟨Int.le_refl _, (by decide : (0 : Int) < (W32 : Int))⟩, fun _ _ => rfl, hx0.out, hx1.out, bel5, hcD5⟩
  case round =>
    clear hc4r hs4r UXX hc5 hs5 hx0 hx1 bel5 hcD5
    obtain ⟨k, h, g, hk, rfl, hch, hsh, huh, hcg, hsg, hug, hgz, hX, hlt, hbel, hcD⟩ := hrel
    have HX : Hid ((X : Int) = val W32 h (k + (m + 2)) + (D : Int) * val W32 g N) := hX
    have HL : Hid (val W32 (fun j => h (k + j)) (m + 2) < (D : Int)) := hlt
    have HGZ : Hid (∀ j, j < k → g j = 0) := hgz
    clear hX hlt hgz
    cases k with
    | zero =>
      have hXD : ((X : Int) = val W32 g N * (D : Int) + val W32 h (m + 2)) := by
        have := HX.out; rw [Nat.zero_add, Int.mul_comm] at this; omega
      have hL0 : val W32 h (m + 2) < (D : Int) := by
        have := HL.out; simpa using this
      have hb0 := (val_bounds W32 h (m + 2) (fun i hi => huh i (by omega))).1
      obtain ⟨q1, q2⟩ := quo_rem X D _ _ (by omega) hb0 hL0 hXD
      rw [HXE.out] at q1
      rw [HXM.out] at q2
      have Q1 : Hid (val W32 g N = ((x / y : Nat) : Int)) := q1
      have Q2 : Hid (val W32 h (m + 2) = ((x % y * 2 ^ s : Nat) : Int)) := q2
      have hMQ : Mine .u64 w.heap.size wr (.slice (some ⟨gQ, 0, none⟩) N N) N g := ⟨_, _, rfl, Nat.le_refl _, by unfold LIM; omega, fun _ => ⟨_, _, rfl, hcg, hsg, hwQ⟩⟩
      have hMR : Mine .u64 w.heap.size wr (.slice (some ⟨gR, 0, none⟩) (m + 2) (la + 1)) (m + 2) h := ⟨_, _, rfl, by omega, by unfold LIM; omega, fun _ => ⟨_, _, rfl, hch.mono (by omega), hsh.mono (by omega), hwR⟩⟩
      have hUR : ∀ i, i < m + 2 → 0 ≤ h i ∧ h i < (W32 : Int) := fun i hi => huh i (by omega)
      have HDX : Hid (x % y * 2 ^ s / 2 ^ s = x % y) := Nat.mul_div_cancel _ (Nat.two_pow_pos s)
      have hnr : nl W32 (x % y * 2 ^ s) ≤ 1000000 := by
        have h1 : val W32 h (m + 2) < (W32 : Int) ^ (m + 2) := (val_bounds W32 h (m + 2) hUR).2
        have h2 := nl_le W32 (x % y * 2 ^ s) (m + 2) (by decide) (by
          have e : ((W32 ^ (m + 2) : Nat) : Int) = (W32 : Int) ^ (m + 2) := by simp
          rw [Q2.out, ← e] at h1; omega)
        omega
      have hML : m + 2 ≤ la + 1 := by omega
      have hms : (s : Nat) ≤ 9223372036854775807 := by omega
      clear hXD hL0 hb0 q1 q2 HX HL HGZ hch hsh huh hcD hlead hwt hin i1 htop hbl kbnd hle hN UD VD hnlD hy hbd kl
      generalize m + 2 = M at *
      generalize la + 1 = L at *
      generalize (m : Int) + 2 = mi at *
      generalize (la : Int) + 1 = li at *
      have iN : (0 : Int) ≤ (M : Int) := by omega
      have iL : (M : Int) ≤ (L : Int) := by omega
      go_wp2
      go_region_held3 (fun _ => True) (trivial) (first
        | (go_at_call_of 63 gQ; refine (cut_mine w.heap.size (.slice (some ⟨gQ, 0, none⟩) N N) N g _ (x / y) (by exact hMQ) (by exact hug) Q1.out).mono ?_; rintro e wq ⟨q, rfl, hq, rfl⟩)
        | (go_at_call_of 63 gR; refine (cut_mine w.heap.size (.slice (some ⟨gR, 0, none⟩) M L) M h _ _ (by exact hMR) hUR Q2.out).mono ?_; rintro e wq ⟨r, rfl, hr, rfl⟩)
        | (go_at_call 82; refine (shiftDown_any _ _ s _ (by exact hr.rep) hnr hms).mono ?_; rintro e w9 ⟨r2, rfl, hr2, hb9⟩))
      go_wp2
      go_ret2
      rw [HDX.out] at hr2
      have hsw := hbel.size
      have hb9' : Below wr.heap.size wr w9 := ⟨hb9.os, hb9.tape, hb9.output, hb9.size, hb9.block⟩
      have hr2' : RepM wr.heap.size w9 r2 (x % y) := hr2
      have hq' : RepM w.heap.size wr q (x / y) := hq
      exact ⟨_, _, rfl, Mine.below hq' hb9', Mine.le hr2' hsw, hbel.trans (hb9'.mono hsw)⟩
    | succ i =>
      have e1 : (((i + 1 : Nat) : Int) - 1) = (i : Int) := by omega
      rw [e1]
      have e2 : (i : Int) + ((m : Int) + 2) + 1 = (i : Int) + (m : Int) + 3 := by omega
      have hRg : gR < wr.heap.size := hch.lt (by omega)
      have hQg : gQ < wr.heap.size := hcg.lt (by omega)
      have hsub := hch.from i (m + 3) (by omega)
      have hsos := hsh.from i (m + 3) (by omega)
      rw [Nat.zero_add] at hsub hsos
      have hfit : val W32 (fun j => h (i + j)) (m + 3) < val W32 (dg W32 D) (m + 2) * 4294967296 := by
        rw [VD.out]
        exact long_fit W32 D h i (m + 2) (huh i (by omega)).2 (by decide) HL.out
      have hUs : U32 (m + 3) (fun j => h (i + j)) := fun j hj => huh (i + j) (by omega)
      go_wp2_with fail
      rw [show i + m + 3 - i = m + 3 by omega]
      refine (divStep_any gR i (la + 1 - i) gb ob cb m (fun j => h (i + j)) (dg W32 D) wr (by omega) (by omega) hsub hsos hcD hcb (by omega) hUs UD htop hfit).mono ?_
      rintro e w6 ⟨rfl, h2, hc6, hu6, hv6, hup6⟩
      rw [VD.out] at hv6 ⊢
      have hst := long_step W32 X D h h2 g i (m + 2) N (by omega) (HGZ.out i (by omega)) HX.out hv6
      have hR0 : 0 ≤ val W32 (fun j => h (i + j)) (m + 3) := (val_bounds W32 _ (m + 3) hUs).1
      have hq0 : 0 ≤ val W32 (fun j => h (i + j)) (m + 3) / (D : Int) := Int.ediv_nonneg hR0 (Int.le_of_lt DP)
      have hq1 : val W32 (fun j => h (i + j)) (m + 3) / (D : Int) < (W32 : Int) := by
        rw [VD.out] at hfit
        exact Int.ediv_lt_of_lt_mul DP (by rw [Int.mul_comm]; exact hfit)
      have hrl : val W32 h2 (m + 2) < (D : Int) := by rw [hv6]; exact Int.emod_lt_of_pos _ DP
      have HST : Hid ((X : Int) = val W32 (lay h h2 i (m + 2)) (i + (m + 2)) + (D : Int) * val W32 (put g i (val W32 (fun j => h (i + j)) (m + 3) / (D : Int))) N) := hst
      have HRL : Hid (val W32 h2 (m + 2) < (D : Int)) := hrl
      have hchL : Cells w6 .u64 gR 0 (la + 1) (lay h h2 i (m + 2)) := by
        intro j hj
        unfold lay
        by_cases hin : i ≤ j ∧ j < i + (m + 2)
        · rw [if_pos hin]
          have := hc6 (j - i) (by omega)
          rw [show i + (j - i) = j by omega] at this
          rw [Nat.zero_add]; exact this
        · rw [if_neg hin, hup6.cell _ (by omega)]; exact hch j hj
      have hshL := hsh.upd hRg hup6
      have hcg6 := hcg.upd hup6 (.inl (by omega))
      have hsg6 := hsg.upd hQg hup6
      have hcD6 := hcD.upd hup6 (.inl (by omega))
      have huL : U32 (la + 1) (lay h h2 i (m + 2)) := by
        intro j hj
        unfold lay
        split
        · exact hu6 _ (by omega)
        · exact huh j hj
      have hbel6 : Below w.heap.size w w6 := hbel.trans (hup6.below hwR hbel.size)
      have hfr := hsg6 i (by omega)
      have hce := hcg6 i (by omega)
      rw [Nat.zero_add] at hfr hce
      generalize val W32 (fun j => h (i + j)) (m + 3) / (D : Int) = qd at *
      clear hst hv6 hrl hfit hup6 hsub hsos HX HL hR0
      go_wp2
      go_roundw
      case rel =>
        have hset := hcg6.set i (by omega) qd
        rw [Nat.zero_add] at hset
        refine ⟨i, lay h h2 i (m + 2), put g i qd, by omega, by go_num, ?_, hshL.set _ _, huL, hset, hsg6.set _ _, put_bounds hug hq0 hq1, ?_, HST.out, ?_, hbel6.setCell (by simp; omega) _, ?_⟩
        · intro j hj; rw [World.cell?_setCell_other _ _ _ _ (fun e => by injection e; omega)]; exact hchL j hj
        · intro j hj; rw [put_other _ _ _ _ (by omega)]; exact HGZ.out j (by omega)
        · rw [val_congr (m + 2) (fun j hj => lay_in h h2 i (m + 2) j hj)]; exact HRL.out
        · intro j hj; rw [World.cell?_setCell_other _ _ _ _ (fun e => by injection e; omega)]; exact hcD6 j hj
      case measure => simp [intOf]

end Go.Proofs.YthhabammejkjcaaDoor
