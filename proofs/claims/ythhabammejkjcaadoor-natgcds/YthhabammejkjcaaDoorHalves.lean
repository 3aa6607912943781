/-
  What nat.multiplyHalves answers (Karatsuba's way).
-/
import Derived.Test.YthhabammejkjcaaDoorKara
namespace Go.Proofs.YthhabammejkjcaaDoor
open Go.RowKit

set_option maxRecDepth 20000 in
set_option maxHeartbeats 2000000 in
theorem halves_wide (g N ba oa la ca bb ob lb cb x y H : Nat) (w : World) (hN : N = la + lb) (hH : H = (la + 1) / 2) (h40 : 40 ≤ lb) (hl : la ≤ 400000) (hlb2 : lb ≤ la) (h2 : la < 2 * lb) (hca : la ≤ ca) (hcb : lb ≤ cb) (hcH : ¬ cb = H)
    (hout : Cells w .u64 g 0 N (fun _ => 0)) (hs : Soft w g 0 N) (ha : Cells w .u64 ba oa la (dg W32 x)) (hb : Cells w .u64 bb ob lb (dg W32 y))
    (hnx : nl W32 x = la) (hny : nl W32 y = lb) (IH : ∀ p q, nl W32 p + nl W32 q < la + lb → ProdAt p q) :
    Calls Tryd.prog 69 #[.slice (some ⟨g, 0, none⟩) N N, .slice (some ⟨ba, oa, none⟩) la ca, .slice (some ⟨bb, ob, none⟩) lb cb] w fun e w' =>
      e = .returned (.tuple #[]) ∧ ∃ h, Cells w' .u64 g 0 N h ∧ U32 N h ∧ val W32 h N = ((x * y : Nat) : Int) ∧ Upd w w' g 0 N := by
  have hglt := hout.lt (show 0 < N by omega)
  have hxl := lt_pow_nl W32 x (by decide)
  have hyl := lt_pow_nl W32 y (by decide)
  rw [hnx] at hxl
  rw [hny] at hyl
  have hHb : 0 < H ∧ H < la ∧ H ≤ lb ∧ la ≤ 2 * H ∧ 2 * H ≤ la + 1 := by omega
  obtain ⟨b1, b2, b3, b4, b5⟩ := hHb
  have hHi : ((la : Int) + 1) / 2 = (H : Int) := by omega
  have hWH : 0 < W32 ^ H := Nat.pow_pos (by decide)
  -- the halves
  have hA1 : Rep w (.slice (some ⟨ba, oa + H, none⟩) (la - H) (ca - H)) (x / W32 ^ H) := rep_hi ha hnx (by omega) hca (by unfold LIM; omega)
  have hB1 : Rep w (.slice (some ⟨bb, ob + H, none⟩) (lb - H) (cb - H)) (y / W32 ^ H) := by
    exact rep_hi hb hny (by omega) hcb (by unfold LIM; omega)
  have hA0 : Nums .u64 w (.slice (some ⟨ba, oa, none⟩) H ca) H (dg W32 x) := ⟨_, _, rfl, by omega, by unfold LIM; omega, fun _ => ⟨_, _, rfl, ha.mono (by omega)⟩⟩
  have hB0 : Nums .u64 w (.slice (some ⟨bb, ob, none⟩) H cb) H (dg W32 y) := ⟨_, _, rfl, by omega, by unfold LIM; omega, fun _ => ⟨_, _, rfl, hb.mono (by omega)⟩⟩
  have VA0 : Hid (val W32 (dg W32 x) H = ((x % W32 ^ H : Nat) : Int)) := val_dg W32 x H
  have VB0 : Hid (val W32 (dg W32 y) H = ((y % W32 ^ H : Nat) : Int)) := val_dg W32 y H
  have hUa : ∀ i, i < H → 0 ≤ dg W32 x i ∧ dg W32 x i < (W32 : Int) := fun i _ => dg_bounds W32 x i (by decide)
  have hUb : ∀ i, i < H → 0 ≤ dg W32 y i ∧ dg W32 y i < (W32 : Int) := fun i _ => dg_bounds W32 y i (by decide)
  have ex : x % W32 ^ H + x / W32 ^ H * W32 ^ H = x := by rw [Nat.mul_comm]; have := Nat.div_add_mod x (W32 ^ H); omega
  have ey : y % W32 ^ H + y / W32 ^ H * W32 ^ H = y := by rw [Nat.mul_comm]; have := Nat.div_add_mod y (W32 ^ H); omega
  have lx0 : x % W32 ^ H < W32 ^ H := Nat.mod_lt _ hWH
  have ly0 : y % W32 ^ H < W32 ^ H := Nat.mod_lt _ hWH
  have lx1 : x / W32 ^ H < W32 ^ H := Nat.div_lt_of_lt_mul (by rw [← Nat.pow_add]; exact Nat.lt_of_lt_of_le hxl (Nat.pow_le_pow_right (by decide) (by omega)))
  have ly1 : y / W32 ^ H < W32 ^ H := Nat.div_lt_of_lt_mul (by rw [← Nat.pow_add]; exact Nat.lt_of_lt_of_le hyl (Nat.pow_le_pow_right (by decide) (by omega)))
  have hx1p : 0 < x / W32 ^ H := by
    refine Nat.div_pos ?_ hWH
    have := pow_le_of_nl W32 x (by omega)
    rw [hnx] at this
    exact Nat.le_trans (Nat.pow_le_pow_right (by decide) (by omega)) this
  have hyp : 0 < y % W32 ^ H + y / W32 ^ H := by
    rcases Nat.eq_zero_or_pos (y % W32 ^ H + y / W32 ^ H) with e | e
    · have e1 : y % W32 ^ H = 0 := (Nat.add_eq_zero_iff.1 e).1
      have e2 : y / W32 ^ H = 0 := (Nat.add_eq_zero_iff.1 e).2
      rw [e1, e2, Nat.zero_mul] at ey
      rw [← ey, nl_zero] at hny; omega
    · exact e
  have hxy : x * y < W32 ^ N := by rw [hN, Nat.pow_add]; exact Nat.mul_lt_mul_of_lt_of_lt hxl hyl
  generalize x % W32 ^ H = x0 at *
  generalize x / W32 ^ H = x1 at *
  generalize y % W32 ^ H = y0 at *
  generalize y / W32 ^ H = y1 at *
  obtain ⟨k1, k2⟩ := kara_sum x0 x1 y0 y1 (W32 ^ H)
  rw [ex, ey, ← Nat.pow_add] at k2
  have nx0 := nl_le W32 x0 H (by decide) lx0
  have ny0 := nl_le W32 y0 H (by decide) ly0
  have nx1 := nl_le W32 x1 H (by decide) lx1
  have ny1 := nl_le W32 y1 H (by decide) ly1
  have hW2 : W32 ^ H * 2 ≤ W32 ^ (H + 1) := by rw [Nat.pow_succ]; exact Nat.mul_le_mul_left _ (by decide)
  have nsx : nl W32 (x0 + x1) ≤ H + 1 := nl_le W32 _ _ (by decide) (by omega)
  have nsy : nl W32 (y0 + y1) ≤ H + 1 := nl_le W32 _ _ (by decide) (by omega)
  have I1 : Hid (ProdAt x0 y0) := IH x0 y0 (by omega)
  have I2 : Hid (ProdAt x1 y1) := IH x1 y1 (by omega)
  have I3 : Hid (ProdAt (x0 + x1) (y0 + y1)) := IH _ _ (by omega)
  have hmid : 0 < (x0 + x1) * (y0 + y1) := Nat.mul_pos (by omega) hyp
  generalize hM : (x0 + x1) * (y0 + y1) = M at *
  generalize hLo : x0 * y0 = lo' at *
  generalize hHi2 : x1 * y1 = hi' at *
  generalize x0 * y1 + x1 * y0 = K at *
  have hnlo : nl W32 lo' ≤ nl W32 M := by
    by_cases q : nl W32 M < nl W32 lo'
    · have := lt_of_nl W32 M lo' (by decide) q; omega
    · omega
  have hnhi : nl W32 hi' ≤ nl W32 M := by
    by_cases q : nl W32 M < nl W32 hi'
    · have := lt_of_nl W32 M hi' (by decide) q; omega
    · omega
  have hM0 : 0 < nl W32 M := by
    rcases Nat.eq_zero_or_pos (nl W32 M) with e | e
    · have := (nl_eq_zero W32 M (by decide)).1 e; omega
    · exact e
  have i1 : (0 : Int) ≤ (H : Int) := by omega
  have i2 : (H : Int) ≤ (la : Int) := by omega
  have i3 : (H : Int) ≤ (ca : Int) := by omega
  have i4 : (H : Int) ≤ (lb : Int) := by omega
  have i5 : (H : Int) ≤ (cb : Int) := by omega
  have i6 : (H : Int) ≤ (N : Int) := by omega
  have n1 : ¬ ca = H := by omega
  have n2 : ¬ N = H := by omega
  have n3 : ¬ N = 2 * H := by omega
  have i7 : 2 * (H : Int) ≤ (N : Int) := by omega
  have hNL : N ≤ LIM := by unfold LIM; omega
  have j1 : 2 * H ≤ N := by omega
  have j2 : H ≤ N := by omega
  have nxs : nl W32 x0 ≤ 1000000 ∧ nl W32 x1 ≤ 1000000 ∧ nl W32 y0 ≤ 1000000 ∧ nl W32 y1 ≤ 1000000 := by omega
  clear hN hH IH ex ey hxl hyl lx0 ly0 lx1 ly1 hW2 nsx nsy
  go_enter Tryd.func69, Tryd.ntmps69
  go_wp2
  go_region_held3 (fun _ => True) (trivial) (first
    | (go_at_call 63; refine (cut_nums (.slice (some ⟨ba, oa, none⟩) H ca) H _ _ x0 (by exact hA0) hUa VA0.out).mono ?_; rintro e wc ⟨va0, rfl, hva0, rfl⟩))
  go_wp2
  go_region_held3 (fun _ => True) (trivial) (first
    | (go_at_call 63; refine (cut_nums (.slice (some ⟨bb, ob, none⟩) H cb) H _ _ y0 (by exact hB0) hUb VB0.out).mono ?_; rintro e wc ⟨vb0, rfl, hvb0, rfl⟩))
  have q0 : Hid (lo' + K * W32 ^ H + hi' * W32 ^ (H + H) = x * y) := k2
  have q1 : Hid (M = lo' + hi' + K) := by show _ = _; rw [← k1]
  have q2 : Hid (x * y < W32 ^ N) := hxy
  have q3 : Hid (x0 * y0 = lo') := hLo
  have q4 : Hid (x1 * y1 = hi') := hHi2
  have q5 : Hid ((x0 + x1) * (y0 + y1) = M) := hM
  clear k1 k2 hxy hLo hHi2 hM hnx hny hA0 hB0 hUa hUb VA0 VB0
  go_wp2_with fail
  refine (I1.out _ _ _ (by exact hva0) (by exact hvb0)).mono ?_
  rintro e w1 ⟨vl, rfl, hvl0, hb10⟩
  have hvl : RepM w.heap.size w1 vl lo' := (by rw [← q3.out]; exact hvl0)
  have hb1 : Below w.heap.size w w1 := ⟨hb10.os, hb10.tape, hb10.output, hb10.size, hb10.block⟩
  have s1 := hb1.size
  have hA1a := Nums.below hA1 hb1
  have hB1a := Nums.below hB1 hb1
  go_wp2_with fail
  refine (I2.out _ _ _ (by exact hA1a) (by exact hB1a)).mono ?_
  rintro e w2 ⟨vh, rfl, hvh0, hb2⟩
  have hvh : RepM w1.heap.size w2 vh hi' := (by rw [← q4.out]; exact hvh0)
  have s2 := hb2.size
  have hva2 := Nums.below (Nums.below (show Rep w va0 x0 from hva0) hb1) hb2
  have hvb2 := Nums.below (Nums.below (show Rep w vb0 y0 from hvb0) hb1) hb2
  have hA2 := Nums.below hA1a hb2
  have hB2 := Nums.below hB1a hb2
  go_wp2_with fail
  refine (sum_any _ _ x0 x1 _ (by exact hva2) (by exact hA2) (by omega) (by omega)).mono ?_
  rintro e w3 ⟨vs, rfl, hvs, hb3⟩
  have s3 := hb3.size
  have hvb3 := Nums.below hvb2 hb3
  have hB3 := Nums.below hB2 hb3
  go_wp2_with fail
  refine (sum_any _ _ y0 y1 _ (by exact hvb3) (by exact hB3) (by omega) (by omega)).mono ?_
  rintro e w4 ⟨vt, rfl, hvt, hb4⟩
  have s4 := hb4.size
  have hvs4 := Nums.below hvs.rep hb4
  go_wp2_with fail
  refine (I3.out _ _ _ (by exact hvs4) (by exact hvt.rep)).mono ?_
  rintro e w5 ⟨vm, rfl, hvm0, hb5⟩
  have hvm : RepM w4.heap.size w5 vm M := (by rw [← q5.out]; exact hvm0)
  have s5 := hb5.size
  clear hvs hvt hvs4 hvb3 hB3 hva2 hvb2 hA2 hB2 hA1a hB1a hvm0 hvh0 hvl0 I1 I2 I3 q3 q4 q5
  have hvl5 : Rep w5 vl lo' := Nums.below (Nums.below (Nums.below (Nums.below hvl.rep hb2) hb3) hb4) hb5
  have hvh5 : Rep w5 vh hi' := Nums.below (Nums.below (Nums.below hvh.rep hb3) hb4) hb5
  have hB5 : Below w.heap.size w w5 := hb1.trans ((hb2.mono s1).trans ((hb3.mono (by omega)).trans ((hb4.mono (by omega)).trans (hb5.mono (by omega)))))
  have hvlne : 0 < nl W32 lo' → ∀ b o c, vl = .slice (some ⟨b, o, none⟩) (nl W32 lo') c → b < w1.heap.size := repM_lt hvl
  have hvhne : 0 < nl W32 hi' → ∀ b o c, vh = .slice (some ⟨b, o, none⟩) (nl W32 hi') c → b < w2.heap.size := repM_lt hvh
  have hvlg := repM_ne hvl hglt
  have hvhg := repM_ne hvh (g := g) (by omega)
  have vM : Hid (val W32 (dg W32 M) (nl W32 M) = (M : Int)) := val_nl W32 M (by decide)
  have vL : Hid (val W32 (dg W32 lo') (nl W32 lo') = (lo' : Int)) := val_nl W32 lo' (by decide)
  have vH : Hid (val W32 (dg W32 hi') (nl W32 hi') = (hi' : Int)) := val_nl W32 hi' (by decide)
  have hout5 := hout.below hB5 hglt
  have hs5 := hs.below hB5 hglt
  clear hb1 hb2 hb3 hb4 hb5 hvl hvh hb10
  obtain ⟨mo, mc, rfl, hmc, hml, hm4⟩ := hvm
  obtain ⟨bm, om, rfl, hcm, hsm, hBm⟩ := hm4 hM0
  clear hm4
  have hum := u32_dg M (nl W32 M)
  have hbm5 := hcm.lt hM0
  generalize nl W32 M = nM at *
  go_wp2_with fail
  refine (takeFrom_any bm om nM mc vl (nl W32 lo') (dg W32 M) (dg W32 lo') _ hml hnlo hcm hsm hum hvl5 (u32_dg _ _) (fun hp b o c he => by have := hvlne hp b o c he; omega) (by rw [vM.out, vL.out]; have := q1.out; clear hWH; omega)).mono ?_
  rintro e w6 ⟨rfl, h6, hc6, hu6, hv6, hup6⟩
  have hvl6 : Rep w6 vl lo' := Nums.upd hvl5 hup6 (fun b o c he hp => by have := hvlne hp b o c he; omega)
  have hvh6 : Rep w6 vh hi' := Nums.upd hvh5 hup6 (fun b o c he hp => by have := hvhne hp b o c he; omega)
  have hsm6 := hsm.upd hbm5 hup6
  go_wp2_with fail
  refine (takeFrom_any bm om nM mc vh (nl W32 hi') h6 (dg W32 hi') _ hml hnhi hc6 hsm6 hu6 hvh6 (u32_dg _ _) (fun hp b o c he => by have := hvhne hp b o c he; omega) (by rw [hv6, vM.out, vL.out, vH.out]; have := q1.out; clear hWH; omega)).mono ?_
  rintro e w7 ⟨rfl, h7, hc7, hu7, hv7, hup7⟩
  have hvl7 : Rep w7 vl lo' := Nums.upd hvl6 hup7 (fun b o c he hp => by have := hvlne hp b o c he; omega)
  have hvh7 : Rep w7 vh hi' := Nums.upd hvh6 hup7 (fun b o c he hp => by have := hvhne hp b o c he; omega)
  have hbm6 := hc6.lt hM0
  have hsm7 := hsm6.upd hbm6 hup7
  have hB7 : Below w.heap.size w w7 := hB5.trans ((hup6.below (by omega) hB5.size).trans (hup7.below (by omega) (Nat.le_trans hB5.size hup6.size)))
  have hout7 := hout.below hB7 hglt
  have hs7 := hs.below hB7 hglt
  have hK : Hid (val W32 h7 nM = (K : Int)) := by show _ = _; rw [hv7, hv6, vM.out, vL.out, vH.out]; have := q1.out; omega
  have hbm7 := hc7.lt hM0
  have hgbm : g ≠ bm := by omega
  clear hv6 hv7 hc6 hu6 hcm hsm hum hsm6 hup6 hup7 hvl5 hvl6 hvh5 hvh6 hB5 hout5 hs5 hbm5 hbm6 vM q1 hout hs
  -- adding up
  have hT1 : Hid (lo' + K * W32 ^ H < W32 ^ N) := by show _ < _; have := q0.out; have := q2.out; omega
  have hT0 : Hid (lo' < W32 ^ N) := by show _ < _; have := hT1.out; omega
  have hloN : nl W32 lo' ≤ N := nl_le W32 _ _ (by decide) hT0.out
  have cN : Hid ((W32 : Int) ^ N = ((W32 ^ N : Nat) : Int)) := by show _ = _; simp
  go_wp2_with fail
  refine (addInto_any g 0 N N vl (nl W32 lo') (fun _ => 0) (dg W32 lo') _ hNL hloN hout7 hs7 (fun _ _ => ⟨Int.le_refl _, (by decide : (0 : Int) < (W32 : Int))⟩) hvl7 (u32_dg _ _) hvlg (by rw [val_zero N (fun _ _ => rfl), vL.out, cN.out]; have := hT0.out; omega)).mono ?_
  rintro e w8 ⟨rfl, h8, hc8, hu8, hv8, hup8⟩
  have hv8' : Hid (val W32 h8 N = (lo' : Int)) := by show _ = _; rw [hv8, val_zero N (fun _ _ => rfl), vL.out]; omega
  have hvh8 : Rep w8 vh hi' := Nums.upd hvh7 hup8 (fun b o c he hp => hvhg hp b o c he)
  have hc78 := hc7.upd hup8 (.inl (Ne.symm hgbm))
  have hsm8 := hsm7.upd hbm7 hup8
  have hg7 := hout7.lt (show 0 < N by omega)
  have hs8 := hs7.upd hg7 hup8
  have hMine : Mine .u64 (g + 1) w8 (.slice (some ⟨bm, om, none⟩) nM mc) nM h7 := ⟨_, _, rfl, hmc, hml, fun _ => ⟨_, _, rfl, hc78, hsm8, by omega⟩⟩
  have hUw8 : Upd w w8 g 0 N := (Upd.of_below hB7 hglt).trans hup8
  clear hv8 hvl7 hvh7 hup8 hc7 hc78 hsm7 hsm8 hs7 hout7 hvlne hvlg vL hT0 hB7
  have HA1 : Hid (∀ h2 : Nat → Int, val W32 (fun j => h8 (H + j)) (N - H) + (K : Int) < (W32 : Int) ^ (N - H) ∧ (val W32 h2 (N - H) = val W32 (fun j => h8 (H + j)) (N - H) + (K : Int) → val W32 (layEnd h8 h2 H) N = ((lo' + K * W32 ^ H : Nat) : Int))) := fun h2 => add_from h8 h2 N H lo' K _ j2 hu8 hv8'.out rfl hT1.out
  have hKnl : nl W32 K ≤ N - H := by
    refine nl_le W32 _ _ (by decide) ?_
    have h1 := (HA1.out (fun _ => 0)).1
    have h2 := (val_bounds W32 (fun j => h8 (H + j)) (N - H) (fun j hj => hu8 (H + j) (by omega))).1
    have e : ((W32 ^ (N - H) : Nat) : Int) = (W32 : Int) ^ (N - H) := by simp
    omega
  have vK : Hid (val W32 (dg W32 K) (nl W32 K) = (K : Int)) := val_nl W32 K (by decide)
  have hrow8 : Cells w8 .u64 g H (N - H) (fun j => h8 (H + j)) := by
    have := hc8.from H (N - H) (by omega); rw [Nat.zero_add] at this; exact this
  have hsrow8 : Soft w8 g H (N - H) := by
    have := hs8.from H (N - H) (by omega); rw [Nat.zero_add] at this; exact this
  have hurow8 : U32 (N - H) (fun j => h8 (H + j)) := fun j hj => hu8 (H + j) (by omega)
  have hlim8 : N - H ≤ LIM := by unfold LIM at *; omega
  have hg1 : g < g + 1 := by omega
  clear ha hb hA1 hB1 hva0 hvb0 nx0 ny0 nx1 ny1 nxs hx1p hyp hmid
  have hg8 := hc8.lt (show 0 < N by omega)
  go_wp2
  go_region_held3 (fun _ => True) (trivial) (first
    | (go_at_call 63; refine (cut_mine (g + 1) (.slice (some ⟨bm, om, none⟩) nM mc) nM h7 _ K (by exact hMine) hu7 hK.out).mono ?_; rintro e wc ⟨vk, rfl, hvk0, rfl⟩; have hvk : RepM (g + 1) w8 vk K := hvk0)
    | (go_at_call 83; refine (addInto_any g H (N - H) (N - H) vk (nl W32 K) (fun j => h8 (H + j)) (dg W32 K) _ hlim8 hKnl (by exact hrow8) (by exact hsrow8) hurow8 (by exact hvk.rep) (u32_dg _ _) (repM_ne hvk hg1) (by rw [vK.out]; exact (HA1.out (fun _ => 0)).1)).mono ?_; rintro e w9 ⟨rfl, h9, hc9, hu9, hv9, hup90⟩; have hup9 : Upd w8 w9 g H (N - H) := ⟨hup90.os, hup90.tape, hup90.output, hup90.size, hup90.block, hup90.cell, hup90.froz⟩))
  rw [vK.out] at hv9
  have hvN9 : Hid (val W32 (layEnd h8 h9 H) N = ((lo' + K * W32 ^ H : Nat) : Int)) := (HA1.out h9).2 hv9
  have hcN9 := cells_layEnd hc8 hc9 hup9
  have huN9 := u32_layEnd hu8 hu9
  have hs9 := hs8.upd hg8 hup9
  have hvh9 : Rep w9 vh hi' := Nums.upd hvh8 hup9 (fun b o c he hp => hvhg hp b o c he)
  have hUw9 : Upd w w9 g 0 N := hUw8.trans (hup9.mono (by omega) (by omega))
  clear hup9 hup90 hc9 hv9 hu9 hvk hvk0 HA1 vK hrow8 hsrow8 hurow8 hlim8 hv8' hc8 hu8 hs8 hvh8 hUw8 hMine hK hKnl hu7
  generalize layEnd h8 h9 H = h10 at *
  have HA2 : Hid (∀ h2 : Nat → Int, val W32 (fun j => h10 (2 * H + j)) (N - 2 * H) + (hi' : Int) < (W32 : Int) ^ (N - 2 * H) ∧ (val W32 h2 (N - 2 * H) = val W32 (fun j => h10 (2 * H + j)) (N - 2 * H) + (hi' : Int) → val W32 (layEnd h10 h2 (2 * H)) N = ((x * y : Nat) : Int))) := fun h2 => add_from h10 h2 N (2 * H) _ hi' _ j1 huN9 hvN9.out (by rw [Nat.two_mul]; exact q0.out) q2.out
  have hHnl : nl W32 hi' ≤ N - 2 * H := by
    refine nl_le W32 _ _ (by decide) ?_
    have h1 := (HA2.out (fun _ => 0)).1
    have h2 := (val_bounds W32 (fun j => h10 (2 * H + j)) (N - 2 * H) (fun j hj => huN9 (2 * H + j) (by omega))).1
    have e : ((W32 ^ (N - 2 * H) : Nat) : Int) = (W32 : Int) ^ (N - 2 * H) := by simp
    omega
  have hrow9 : Cells w9 .u64 g (2 * H) (N - 2 * H) (fun j => h10 (2 * H + j)) := by
    have := hcN9.from (2 * H) (N - 2 * H) (by omega); rw [Nat.zero_add] at this; exact this
  have hsrow9 : Soft w9 g (2 * H) (N - 2 * H) := by
    have := hs9.from (2 * H) (N - 2 * H) (by omega); rw [Nat.zero_add] at this; exact this
  have hurow9 : U32 (N - 2 * H) (fun j => h10 (2 * H + j)) := fun j hj => huN9 (2 * H + j) (by omega)
  have hlim9 : N - 2 * H ≤ LIM := by unfold LIM at *; omega
  have hg9 := hcN9.lt (show 0 < N by omega)
  go_wp2_with fail
  refine (addInto_any g (2 * H) (N - 2 * H) (N - 2 * H) vh (nl W32 hi') (fun j => h10 (2 * H + j)) (dg W32 hi') _ hlim9 hHnl hrow9 hsrow9 hurow9 hvh9 (u32_dg _ _) hvhg (by rw [vH.out]; exact (HA2.out (fun _ => 0)).1)).mono ?_
  rintro e w10 ⟨rfl, h11, hc11, hu11, hv11, hup11⟩
  rw [vH.out] at hv11
  have hvN := (HA2.out h11).2 hv11
  have hcN := cells_layEnd hcN9 hc11 hup11
  have huN := u32_layEnd huN9 hu11
  have hUw := hUw9.trans (hup11.mono (by omega) (by omega))
  generalize layEnd h10 h11 (2 * H) = h12 at *
  clear hup11 hc11 hv11 hu11 hcN9 huN9 hs9 hvh9 hUw9 HA2 hHnl hrow9 hsrow9 hurow9 hlim9
  go_wp2
  go_end0
  exact ⟨rfl, h12, hcN, huN, hvN, hUw⟩

set_option maxRecDepth 20000 in
set_option maxHeartbeats 2000000 in
theorem halves_tight (g N ba oa la ca bb ob x y H : Nat) (w : World) (hN : N = la + H) (hH : H = (la + 1) / 2) (h40 : 40 ≤ H) (hl : la ≤ 400000) (hlb2 : H ≤ la) (h2 : la < 2 * H) (hca : la ≤ ca)
    (hout : Cells w .u64 g 0 N (fun _ => 0)) (hs : Soft w g 0 N) (ha : Cells w .u64 ba oa la (dg W32 x)) (hb : Cells w .u64 bb ob H (dg W32 y))
    (hnx : nl W32 x = la) (hny : nl W32 y = H) (IH : ∀ p q, nl W32 p + nl W32 q < la + H → ProdAt p q) :
    Calls Tryd.prog 69 #[.slice (some ⟨g, 0, none⟩) N N, .slice (some ⟨ba, oa, none⟩) la ca, .slice (some ⟨bb, ob, none⟩) H H] w fun e w' =>
      e = .returned (.tuple #[]) ∧ ∃ h, Cells w' .u64 g 0 N h ∧ U32 N h ∧ val W32 h N = ((x * y : Nat) : Int) ∧ Upd w w' g 0 N := by
  have hglt := hout.lt (show 0 < N by omega)
  have hxl := lt_pow_nl W32 x (by decide)
  have hyl := lt_pow_nl W32 y (by decide)
  rw [hnx] at hxl
  rw [hny] at hyl
  have hHb : 0 < H ∧ H < la ∧ H ≤ H ∧ la ≤ 2 * H ∧ 2 * H ≤ la + 1 := by omega
  obtain ⟨b1, b2, b3, b4, b5⟩ := hHb
  have hHi : ((la : Int) + 1) / 2 = (H : Int) := by omega
  have hWH : 0 < W32 ^ H := Nat.pow_pos (by decide)
  -- the halves
  have hA1 : Rep w (.slice (some ⟨ba, oa + H, none⟩) (la - H) (ca - H)) (x / W32 ^ H) := rep_hi ha hnx (by omega) hca (by unfold LIM; omega)
  have hB1 : Rep w (.slice (some ⟨bb, ob, none⟩) 0 0) (y / W32 ^ H) := by
    have e : y / W32 ^ H = 0 := Nat.div_eq_of_lt hyl
    rw [e]; unfold Rep; rw [nl_zero]
    exact ⟨_, _, rfl, Nat.le_refl _, Nat.zero_le _, fun h => absurd h (by omega)⟩
  have hA0 : Nums .u64 w (.slice (some ⟨ba, oa, none⟩) H ca) H (dg W32 x) := ⟨_, _, rfl, by omega, by unfold LIM; omega, fun _ => ⟨_, _, rfl, ha.mono (by omega)⟩⟩
  have hB0 : Nums .u64 w (.slice (some ⟨bb, ob, none⟩) H H) H (dg W32 y) := ⟨_, _, rfl, by omega, by unfold LIM; omega, fun _ => ⟨_, _, rfl, hb.mono (by omega)⟩⟩
  have VA0 : Hid (val W32 (dg W32 x) H = ((x % W32 ^ H : Nat) : Int)) := val_dg W32 x H
  have VB0 : Hid (val W32 (dg W32 y) H = ((y % W32 ^ H : Nat) : Int)) := val_dg W32 y H
  have hUa : ∀ i, i < H → 0 ≤ dg W32 x i ∧ dg W32 x i < (W32 : Int) := fun i _ => dg_bounds W32 x i (by decide)
  have hUb : ∀ i, i < H → 0 ≤ dg W32 y i ∧ dg W32 y i < (W32 : Int) := fun i _ => dg_bounds W32 y i (by decide)
  have ex : x % W32 ^ H + x / W32 ^ H * W32 ^ H = x := by rw [Nat.mul_comm]; have := Nat.div_add_mod x (W32 ^ H); omega
  have ey : y % W32 ^ H + y / W32 ^ H * W32 ^ H = y := by rw [Nat.mul_comm]; have := Nat.div_add_mod y (W32 ^ H); omega
  have lx0 : x % W32 ^ H < W32 ^ H := Nat.mod_lt _ hWH
  have ly0 : y % W32 ^ H < W32 ^ H := Nat.mod_lt _ hWH
  have lx1 : x / W32 ^ H < W32 ^ H := Nat.div_lt_of_lt_mul (by rw [← Nat.pow_add]; exact Nat.lt_of_lt_of_le hxl (Nat.pow_le_pow_right (by decide) (by omega)))
  have ly1 : y / W32 ^ H < W32 ^ H := Nat.div_lt_of_lt_mul (by rw [← Nat.pow_add]; exact Nat.lt_of_lt_of_le hyl (Nat.pow_le_pow_right (by decide) (by omega)))
  have hx1p : 0 < x / W32 ^ H := by
    refine Nat.div_pos ?_ hWH
    have := pow_le_of_nl W32 x (by omega)
    rw [hnx] at this
    exact Nat.le_trans (Nat.pow_le_pow_right (by decide) (by omega)) this
  have hyp : 0 < y % W32 ^ H + y / W32 ^ H := by
    rcases Nat.eq_zero_or_pos (y % W32 ^ H + y / W32 ^ H) with e | e
    · have e1 : y % W32 ^ H = 0 := (Nat.add_eq_zero_iff.1 e).1
      have e2 : y / W32 ^ H = 0 := (Nat.add_eq_zero_iff.1 e).2
      rw [e1, e2, Nat.zero_mul] at ey
      rw [← ey, nl_zero] at hny; omega
    · exact e
  have hxy : x * y < W32 ^ N := by rw [hN, Nat.pow_add]; exact Nat.mul_lt_mul_of_lt_of_lt hxl hyl
  generalize x % W32 ^ H = x0 at *
  generalize x / W32 ^ H = x1 at *
  generalize y % W32 ^ H = y0 at *
  generalize y / W32 ^ H = y1 at *
  obtain ⟨k1, k2⟩ := kara_sum x0 x1 y0 y1 (W32 ^ H)
  rw [ex, ey, ← Nat.pow_add] at k2
  have nx0 := nl_le W32 x0 H (by decide) lx0
  have ny0 := nl_le W32 y0 H (by decide) ly0
  have nx1 := nl_le W32 x1 H (by decide) lx1
  have ny1 := nl_le W32 y1 H (by decide) ly1
  have hW2 : W32 ^ H * 2 ≤ W32 ^ (H + 1) := by rw [Nat.pow_succ]; exact Nat.mul_le_mul_left _ (by decide)
  have nsx : nl W32 (x0 + x1) ≤ H + 1 := nl_le W32 _ _ (by decide) (by omega)
  have nsy : nl W32 (y0 + y1) ≤ H + 1 := nl_le W32 _ _ (by decide) (by omega)
  have I1 : Hid (ProdAt x0 y0) := IH x0 y0 (by omega)
  have I2 : Hid (ProdAt x1 y1) := IH x1 y1 (by omega)
  have I3 : Hid (ProdAt (x0 + x1) (y0 + y1)) := IH _ _ (by omega)
  have hmid : 0 < (x0 + x1) * (y0 + y1) := Nat.mul_pos (by omega) hyp
  generalize hM : (x0 + x1) * (y0 + y1) = M at *
  generalize hLo : x0 * y0 = lo' at *
  generalize hHi2 : x1 * y1 = hi' at *
  generalize x0 * y1 + x1 * y0 = K at *
  have hnlo : nl W32 lo' ≤ nl W32 M := by
    by_cases q : nl W32 M < nl W32 lo'
    · have := lt_of_nl W32 M lo' (by decide) q; omega
    · omega
  have hnhi : nl W32 hi' ≤ nl W32 M := by
    by_cases q : nl W32 M < nl W32 hi'
    · have := lt_of_nl W32 M hi' (by decide) q; omega
    · omega
  have hM0 : 0 < nl W32 M := by
    rcases Nat.eq_zero_or_pos (nl W32 M) with e | e
    · have := (nl_eq_zero W32 M (by decide)).1 e; omega
    · exact e
  have i1 : (0 : Int) ≤ (H : Int) := by omega
  have i2 : (H : Int) ≤ (la : Int) := by omega
  have i3 : (H : Int) ≤ (ca : Int) := by omega
  have i4 : (H : Int) ≤ (H : Int) := by omega
  have i5 : (H : Int) ≤ (H : Int) := by omega
  have i6 : (H : Int) ≤ (N : Int) := by omega
  have n1 : ¬ ca = H := by omega
  have n2 : ¬ N = H := by omega
  have n3 : ¬ N = 2 * H := by omega
  have i7 : 2 * (H : Int) ≤ (N : Int) := by omega
  have hNL : N ≤ LIM := by unfold LIM; omega
  have j1 : 2 * H ≤ N := by omega
  have j2 : H ≤ N := by omega
  have nxs : nl W32 x0 ≤ 1000000 ∧ nl W32 x1 ≤ 1000000 ∧ nl W32 y0 ≤ 1000000 ∧ nl W32 y1 ≤ 1000000 := by omega
  clear hN hH IH ex ey hxl hyl lx0 ly0 lx1 ly1 hW2 nsx nsy
  go_enter Tryd.func69, Tryd.ntmps69
  go_wp2
  go_region_held3 (fun _ => True) (trivial) (first
    | (go_at_call 63; refine (cut_nums (.slice (some ⟨ba, oa, none⟩) H ca) H _ _ x0 (by exact hA0) hUa VA0.out).mono ?_; rintro e wc ⟨va0, rfl, hva0, rfl⟩))
  go_wp2
  go_region_held3 (fun _ => True) (trivial) (first
    | (go_at_call 63; refine (cut_nums (.slice (some ⟨bb, ob, none⟩) H H) H _ _ y0 (by exact hB0) hUb VB0.out).mono ?_; rintro e wc ⟨vb0, rfl, hvb0, rfl⟩))
  have q0 : Hid (lo' + K * W32 ^ H + hi' * W32 ^ (H + H) = x * y) := k2
  have q1 : Hid (M = lo' + hi' + K) := by show _ = _; rw [← k1]
  have q2 : Hid (x * y < W32 ^ N) := hxy
  have q3 : Hid (x0 * y0 = lo') := hLo
  have q4 : Hid (x1 * y1 = hi') := hHi2
  have q5 : Hid ((x0 + x1) * (y0 + y1) = M) := hM
  clear k1 k2 hxy hLo hHi2 hM hnx hny hA0 hB0 hUa hUb VA0 VB0
  go_wp2_with fail
  refine (I1.out _ _ _ (by exact hva0) (by exact hvb0)).mono ?_
  rintro e w1 ⟨vl, rfl, hvl0, hb10⟩
  have hvl : RepM w.heap.size w1 vl lo' := (by rw [← q3.out]; exact hvl0)
  have hb1 : Below w.heap.size w w1 := ⟨hb10.os, hb10.tape, hb10.output, hb10.size, hb10.block⟩
  have s1 := hb1.size
  have hA1a := Nums.below hA1 hb1
  have hB1a := Nums.below hB1 hb1
  go_wp2_with fail
  refine (I2.out _ _ _ (by exact hA1a) (by exact hB1a)).mono ?_
  rintro e w2 ⟨vh, rfl, hvh0, hb2⟩
  have hvh : RepM w1.heap.size w2 vh hi' := (by rw [← q4.out]; exact hvh0)
  have s2 := hb2.size
  have hva2 := Nums.below (Nums.below (show Rep w va0 x0 from hva0) hb1) hb2
  have hvb2 := Nums.below (Nums.below (show Rep w vb0 y0 from hvb0) hb1) hb2
  have hA2 := Nums.below hA1a hb2
  have hB2 := Nums.below hB1a hb2
  go_wp2_with fail
  refine (sum_any _ _ x0 x1 _ (by exact hva2) (by exact hA2) (by omega) (by omega)).mono ?_
  rintro e w3 ⟨vs, rfl, hvs, hb3⟩
  have s3 := hb3.size
  have hvb3 := Nums.below hvb2 hb3
  have hB3 := Nums.below hB2 hb3
  go_wp2_with fail
  refine (sum_any _ _ y0 y1 _ (by exact hvb3) (by exact hB3) (by omega) (by omega)).mono ?_
  rintro e w4 ⟨vt, rfl, hvt, hb4⟩
  have s4 := hb4.size
  have hvs4 := Nums.below hvs.rep hb4
  go_wp2_with fail
  refine (I3.out _ _ _ (by exact hvs4) (by exact hvt.rep)).mono ?_
  rintro e w5 ⟨vm, rfl, hvm0, hb5⟩
  have hvm : RepM w4.heap.size w5 vm M := (by rw [← q5.out]; exact hvm0)
  have s5 := hb5.size
  clear hvs hvt hvs4 hvb3 hB3 hva2 hvb2 hA2 hB2 hA1a hB1a hvm0 hvh0 hvl0 I1 I2 I3 q3 q4 q5
  have hvl5 : Rep w5 vl lo' := Nums.below (Nums.below (Nums.below (Nums.below hvl.rep hb2) hb3) hb4) hb5
  have hvh5 : Rep w5 vh hi' := Nums.below (Nums.below (Nums.below hvh.rep hb3) hb4) hb5
  have hB5 : Below w.heap.size w w5 := hb1.trans ((hb2.mono s1).trans ((hb3.mono (by omega)).trans ((hb4.mono (by omega)).trans (hb5.mono (by omega)))))
  have hvlne : 0 < nl W32 lo' → ∀ b o c, vl = .slice (some ⟨b, o, none⟩) (nl W32 lo') c → b < w1.heap.size := repM_lt hvl
  have hvhne : 0 < nl W32 hi' → ∀ b o c, vh = .slice (some ⟨b, o, none⟩) (nl W32 hi') c → b < w2.heap.size := repM_lt hvh
  have hvlg := repM_ne hvl hglt
  have hvhg := repM_ne hvh (g := g) (by omega)
  have vM : Hid (val W32 (dg W32 M) (nl W32 M) = (M : Int)) := val_nl W32 M (by decide)
  have vL : Hid (val W32 (dg W32 lo') (nl W32 lo') = (lo' : Int)) := val_nl W32 lo' (by decide)
  have vH : Hid (val W32 (dg W32 hi') (nl W32 hi') = (hi' : Int)) := val_nl W32 hi' (by decide)
  have hout5 := hout.below hB5 hglt
  have hs5 := hs.below hB5 hglt
  clear hb1 hb2 hb3 hb4 hb5 hvl hvh hb10
  obtain ⟨mo, mc, rfl, hmc, hml, hm4⟩ := hvm
  obtain ⟨bm, om, rfl, hcm, hsm, hBm⟩ := hm4 hM0
  clear hm4
  have hum := u32_dg M (nl W32 M)
  have hbm5 := hcm.lt hM0
  generalize nl W32 M = nM at *
  go_wp2_with fail
  refine (takeFrom_any bm om nM mc vl (nl W32 lo') (dg W32 M) (dg W32 lo') _ hml hnlo hcm hsm hum hvl5 (u32_dg _ _) (fun hp b o c he => by have := hvlne hp b o c he; omega) (by rw [vM.out, vL.out]; have := q1.out; clear hWH; omega)).mono ?_
  rintro e w6 ⟨rfl, h6, hc6, hu6, hv6, hup6⟩
  have hvl6 : Rep w6 vl lo' := Nums.upd hvl5 hup6 (fun b o c he hp => by have := hvlne hp b o c he; omega)
  have hvh6 : Rep w6 vh hi' := Nums.upd hvh5 hup6 (fun b o c he hp => by have := hvhne hp b o c he; omega)
  have hsm6 := hsm.upd hbm5 hup6
  go_wp2_with fail
  refine (takeFrom_any bm om nM mc vh (nl W32 hi') h6 (dg W32 hi') _ hml hnhi hc6 hsm6 hu6 hvh6 (u32_dg _ _) (fun hp b o c he => by have := hvhne hp b o c he; omega) (by rw [hv6, vM.out, vL.out, vH.out]; have := q1.out; clear hWH; omega)).mono ?_
  rintro e w7 ⟨rfl, h7, hc7, hu7, hv7, hup7⟩
  have hvl7 : Rep w7 vl lo' := Nums.upd hvl6 hup7 (fun b o c he hp => by have := hvlne hp b o c he; omega)
  have hvh7 : Rep w7 vh hi' := Nums.upd hvh6 hup7 (fun b o c he hp => by have := hvhne hp b o c he; omega)
  have hbm6 := hc6.lt hM0
  have hsm7 := hsm6.upd hbm6 hup7
  have hB7 : Below w.heap.size w w7 := hB5.trans ((hup6.below (by omega) hB5.size).trans (hup7.below (by omega) (Nat.le_trans hB5.size hup6.size)))
  have hout7 := hout.below hB7 hglt
  have hs7 := hs.below hB7 hglt
  have hK : Hid (val W32 h7 nM = (K : Int)) := by show _ = _; rw [hv7, hv6, vM.out, vL.out, vH.out]; have := q1.out; omega
  have hbm7 := hc7.lt hM0
  have hgbm : g ≠ bm := by omega
  clear hv6 hv7 hc6 hu6 hcm hsm hum hsm6 hup6 hup7 hvl5 hvl6 hvh5 hvh6 hB5 hout5 hs5 hbm5 hbm6 vM q1 hout hs
  -- adding up
  have hT1 : Hid (lo' + K * W32 ^ H < W32 ^ N) := by show _ < _; have := q0.out; have := q2.out; omega
  have hT0 : Hid (lo' < W32 ^ N) := by show _ < _; have := hT1.out; omega
  have hloN : nl W32 lo' ≤ N := nl_le W32 _ _ (by decide) hT0.out
  have cN : Hid ((W32 : Int) ^ N = ((W32 ^ N : Nat) : Int)) := by show _ = _; simp
  go_wp2_with fail
  refine (addInto_any g 0 N N vl (nl W32 lo') (fun _ => 0) (dg W32 lo') _ hNL hloN hout7 hs7 (fun _ _ => ⟨Int.le_refl _, (by decide : (0 : Int) < (W32 : Int))⟩) hvl7 (u32_dg _ _) hvlg (by rw [val_zero N (fun _ _ => rfl), vL.out, cN.out]; have := hT0.out; omega)).mono ?_
  rintro e w8 ⟨rfl, h8, hc8, hu8, hv8, hup8⟩
  have hv8' : Hid (val W32 h8 N = (lo' : Int)) := by show _ = _; rw [hv8, val_zero N (fun _ _ => rfl), vL.out]; omega
  have hvh8 : Rep w8 vh hi' := Nums.upd hvh7 hup8 (fun b o c he hp => hvhg hp b o c he)
  have hc78 := hc7.upd hup8 (.inl (Ne.symm hgbm))
  have hsm8 := hsm7.upd hbm7 hup8
  have hg7 := hout7.lt (show 0 < N by omega)
  have hs8 := hs7.upd hg7 hup8
  have hMine : Mine .u64 (g + 1) w8 (.slice (some ⟨bm, om, none⟩) nM mc) nM h7 := ⟨_, _, rfl, hmc, hml, fun _ => ⟨_, _, rfl, hc78, hsm8, by omega⟩⟩
  have hUw8 : Upd w w8 g 0 N := (Upd.of_below hB7 hglt).trans hup8
  clear hv8 hvl7 hvh7 hup8 hc7 hc78 hsm7 hsm8 hs7 hout7 hvlne hvlg vL hT0 hB7
  have HA1 : Hid (∀ h2 : Nat → Int, val W32 (fun j => h8 (H + j)) (N - H) + (K : Int) < (W32 : Int) ^ (N - H) ∧ (val W32 h2 (N - H) = val W32 (fun j => h8 (H + j)) (N - H) + (K : Int) → val W32 (layEnd h8 h2 H) N = ((lo' + K * W32 ^ H : Nat) : Int))) := fun h2 => add_from h8 h2 N H lo' K _ j2 hu8 hv8'.out rfl hT1.out
  have hKnl : nl W32 K ≤ N - H := by
    refine nl_le W32 _ _ (by decide) ?_
    have h1 := (HA1.out (fun _ => 0)).1
    have h2 := (val_bounds W32 (fun j => h8 (H + j)) (N - H) (fun j hj => hu8 (H + j) (by omega))).1
    have e : ((W32 ^ (N - H) : Nat) : Int) = (W32 : Int) ^ (N - H) := by simp
    omega
  have vK : Hid (val W32 (dg W32 K) (nl W32 K) = (K : Int)) := val_nl W32 K (by decide)
  have hrow8 : Cells w8 .u64 g H (N - H) (fun j => h8 (H + j)) := by
    have := hc8.from H (N - H) (by omega); rw [Nat.zero_add] at this; exact this
  have hsrow8 : Soft w8 g H (N - H) := by
    have := hs8.from H (N - H) (by omega); rw [Nat.zero_add] at this; exact this
  have hurow8 : U32 (N - H) (fun j => h8 (H + j)) := fun j hj => hu8 (H + j) (by omega)
  have hlim8 : N - H ≤ LIM := by unfold LIM at *; omega
  have hg1 : g < g + 1 := by omega
  clear ha hb hA1 hB1 hva0 hvb0 nx0 ny0 nx1 ny1 nxs hx1p hyp hmid
  have hg8 := hc8.lt (show 0 < N by omega)
  go_wp2
  go_region_held3 (fun _ => True) (trivial) (first
    | (go_at_call 63; refine (cut_mine (g + 1) (.slice (some ⟨bm, om, none⟩) nM mc) nM h7 _ K (by exact hMine) hu7 hK.out).mono ?_; rintro e wc ⟨vk, rfl, hvk0, rfl⟩; have hvk : RepM (g + 1) w8 vk K := hvk0)
    | (go_at_call 83; refine (addInto_any g H (N - H) (N - H) vk (nl W32 K) (fun j => h8 (H + j)) (dg W32 K) _ hlim8 hKnl (by exact hrow8) (by exact hsrow8) hurow8 (by exact hvk.rep) (u32_dg _ _) (repM_ne hvk hg1) (by rw [vK.out]; exact (HA1.out (fun _ => 0)).1)).mono ?_; rintro e w9 ⟨rfl, h9, hc9, hu9, hv9, hup90⟩; have hup9 : Upd w8 w9 g H (N - H) := ⟨hup90.os, hup90.tape, hup90.output, hup90.size, hup90.block, hup90.cell, hup90.froz⟩))
  rw [vK.out] at hv9
  have hvN9 : Hid (val W32 (layEnd h8 h9 H) N = ((lo' + K * W32 ^ H : Nat) : Int)) := (HA1.out h9).2 hv9
  have hcN9 := cells_layEnd hc8 hc9 hup9
  have huN9 := u32_layEnd hu8 hu9
  have hs9 := hs8.upd hg8 hup9
  have hvh9 : Rep w9 vh hi' := Nums.upd hvh8 hup9 (fun b o c he hp => hvhg hp b o c he)
  have hUw9 : Upd w w9 g 0 N := hUw8.trans (hup9.mono (by omega) (by omega))
  clear hup9 hup90 hc9 hv9 hu9 hvk hvk0 HA1 vK hrow8 hsrow8 hurow8 hlim8 hv8' hc8 hu8 hs8 hvh8 hUw8 hMine hK hKnl hu7
  generalize layEnd h8 h9 H = h10 at *
  have HA2 : Hid (∀ h2 : Nat → Int, val W32 (fun j => h10 (2 * H + j)) (N - 2 * H) + (hi' : Int) < (W32 : Int) ^ (N - 2 * H) ∧ (val W32 h2 (N - 2 * H) = val W32 (fun j => h10 (2 * H + j)) (N - 2 * H) + (hi' : Int) → val W32 (layEnd h10 h2 (2 * H)) N = ((x * y : Nat) : Int))) := fun h2 => add_from h10 h2 N (2 * H) _ hi' _ j1 huN9 hvN9.out (by rw [Nat.two_mul]; exact q0.out) q2.out
  have hHnl : nl W32 hi' ≤ N - 2 * H := by
    refine nl_le W32 _ _ (by decide) ?_
    have h1 := (HA2.out (fun _ => 0)).1
    have h2 := (val_bounds W32 (fun j => h10 (2 * H + j)) (N - 2 * H) (fun j hj => huN9 (2 * H + j) (by omega))).1
    have e : ((W32 ^ (N - 2 * H) : Nat) : Int) = (W32 : Int) ^ (N - 2 * H) := by simp
    omega
  have hrow9 : Cells w9 .u64 g (2 * H) (N - 2 * H) (fun j => h10 (2 * H + j)) := by
    have := hcN9.from (2 * H) (N - 2 * H) (by omega); rw [Nat.zero_add] at this; exact this
  have hsrow9 : Soft w9 g (2 * H) (N - 2 * H) := by
    have := hs9.from (2 * H) (N - 2 * H) (by omega); rw [Nat.zero_add] at this; exact this
  have hurow9 : U32 (N - 2 * H) (fun j => h10 (2 * H + j)) := fun j hj => huN9 (2 * H + j) (by omega)
  have hlim9 : N - 2 * H ≤ LIM := by unfold LIM at *; omega
  have hg9 := hcN9.lt (show 0 < N by omega)
  go_wp2_with fail
  refine (addInto_any g (2 * H) (N - 2 * H) (N - 2 * H) vh (nl W32 hi') (fun j => h10 (2 * H + j)) (dg W32 hi') _ hlim9 hHnl hrow9 hsrow9 hurow9 hvh9 (u32_dg _ _) hvhg (by rw [vH.out]; exact (HA2.out (fun _ => 0)).1)).mono ?_
  rintro e w10 ⟨rfl, h11, hc11, hu11, hv11, hup11⟩
  rw [vH.out] at hv11
  have hvN := (HA2.out h11).2 hv11
  have hcN := cells_layEnd hcN9 hc11 hup11
  have huN := u32_layEnd huN9 hu11
  have hUw := hUw9.trans (hup11.mono (by omega) (by omega))
  generalize layEnd h10 h11 (2 * H) = h12 at *
  clear hup11 hc11 hv11 hu11 hcN9 huN9 hs9 hvh9 hUw9 HA2 hHnl hrow9 hsrow9 hurow9 hlim9
  go_wp2
  go_end0
  exact ⟨rfl, h12, hcN, huN, hvN, hUw⟩

theorem halves_any (g N ba oa la ca bb ob lb cb x y : Nat) (w : World) (hN : N = la + lb) (h40 : 40 ≤ lb) (hl : la ≤ 400000) (hlb2 : lb ≤ la) (h2 : la < 2 * lb) (hca : la ≤ ca) (hcb : lb ≤ cb)
    (hout : Cells w .u64 g 0 N (fun _ => 0)) (hs : Soft w g 0 N) (ha : Cells w .u64 ba oa la (dg W32 x)) (hb : Cells w .u64 bb ob lb (dg W32 y))
    (hnx : nl W32 x = la) (hny : nl W32 y = lb) (IH : ∀ p q, nl W32 p + nl W32 q < la + lb → ProdAt p q) :
    Calls Tryd.prog 69 #[.slice (some ⟨g, 0, none⟩) N N, .slice (some ⟨ba, oa, none⟩) la ca, .slice (some ⟨bb, ob, none⟩) lb cb] w fun e w' =>
      e = .returned (.tuple #[]) ∧ ∃ h, Cells w' .u64 g 0 N h ∧ U32 N h ∧ val W32 h N = ((x * y : Nat) : Int) ∧ Upd w w' g 0 N := by
  by_cases h : cb = (la + 1) / 2
  · obtain ⟨H, hH⟩ : ∃ H, H = (la + 1) / 2 := ⟨_, rfl⟩
    have e1 : cb = H := by omega
    have e2 : lb = H := by omega
    clear h
    subst e1
    subst e2
    exact halves_tight g N ba oa la ca bb ob x y lb w hN hH h40 hl hlb2 h2 hca hout hs ha hb hnx hny IH
  · exact halves_wide g N ba oa la ca bb ob lb cb x y _ w hN rfl h40 hl hlb2 h2 hca hcb h hout hs ha hb hnx hny IH

end Go.Proofs.YthhabammejkjcaaDoor
