/-
  What nat.multiplyRows leaves, and what nat.product and Mul answer: the product, where the shorter number has fewer than 40 limbs.
-/
import Derived.Test.YthhabammejkjcaaDoorCmp
import Derived.Test.YthhabammejkjcaaDoorMulNum
namespace Go.Proofs.YthhabammejkjcaaDoor
open Go.RowKit

/-- Limbs below 2^32. -/
def U32 (n : Nat) (f : Nat → Int) : Prop := ∀ i, i < n → 0 ≤ f i ∧ f i < (W32 : Int)

set_option maxRecDepth 20000 in
set_option maxHeartbeats 2000000 in
theorem mulRows_any (g off N c ba oa la ca bb ob lb cb : Nat) (fa fb : Nat → Int) (w : World) (hN : la + lb ≤ N) (hNc : N ≤ c) (hl : N ≤ LIM)
    (hout : Cells w .u64 g off N (fun _ => 0)) (hsoft : Soft w g off N) (ha : Cells w .u64 ba oa la fa) (hb : Cells w .u64 bb ob lb fb)
    (hga : ba ≠ g) (hgb : bb ≠ g) (ua : U32 la fa) (ub : U32 lb fb) :
    Calls Tryd.prog 67 #[.slice (some ⟨g, off, none⟩) N c, .slice (some ⟨ba, oa, none⟩) la ca, .slice (some ⟨bb, ob, none⟩) lb cb] w fun e w' =>
      e = .returned (.tuple #[]) ∧ ∃ h, Cells w' .u64 g off N h ∧ U32 N h ∧ val W32 h N = val W32 fa la * val W32 fb lb ∧ Upd w w' g off N := by
  unfold LIM at hl
  go_enter Tryd.func67, Tryd.ntmps67
  go_wp2
  go_loopw [14] (fun v wr => ∃ (i : Nat) (h : Nat → Int), i ≤ lb ∧ v = .int .i64 i ∧ Cells wr .u64 g off N h ∧ U32 N h ∧ (∀ p, i + la ≤ p → h p = 0) ∧ val W32 h N = val W32 fa la * val W32 fb i ∧ Upd w wr g off N) (fun v _ => lb - (intOf v).toNat)
  case atStart => exact ⟨0, fun _ => 0, Nat.zero_le _, rfl, hout, fun _ _ => ⟨Int.le_refl _, (by decide : (0 : Int) < (W32 : Int))⟩, fun _ _ => rfl, by rw [val_zero N (fun _ _ => rfl)]; simp [val], Upd.refl _ _ _ _⟩
  case round =>
    obtain ⟨i, h, hi, rfl, hc, hu, hz, hv, hupd⟩ := hrel
    by_cases hlt : i < lb
    · have hcb : wr.cell? ⟨bb, ob + i, none⟩ = some (.int .u64 (fb i)) := (hb.upd hupd (.inl hgb)) i hlt
      have HV : Hid (val W32 h N = val W32 fa la * val W32 fb i) := hv
      have HZ : Hid (∀ p, i + la ≤ p → h p = 0) := hz
      clear hv hz
      go_wp2
      go_loopw [8, 27] (fun vc vj w2 => ∃ (j : Nat) (h2 : Nat → Int) (cr : Int), j ≤ la ∧ vc = .int .u64 cr ∧ vj = .int .i64 j ∧ 0 ≤ cr ∧ cr < 4294967296 ∧ Cells w2 .u64 g off N h2 ∧ U32 N h2 ∧ (∀ p, i + j ≤ p → h2 p = h p) ∧ val W32 h2 N + cr * (W32 : Int) ^ (i + j) = val W32 h N + fb i * val W32 fa j * (W32 : Int) ^ i ∧ Upd w w2 g off N) (fun _ vj _ => la - (intOf vj).toNat)
      case atStart => exact ⟨0, h, 0, Nat.zero_le _, rfl, rfl, Int.le_refl _, by decide, hc, hu, fun _ _ => rfl, by simp [val], hupd⟩
      case round =>
        obtain ⟨j, h2, cr, hj, rfl, rfl, hcr0, hcr1, hc2, hu2, hs2, hv2, hupd2⟩ := hrel
        have HV2 : Hid (val W32 h2 N + cr * (W32 : Int) ^ (i + j) = val W32 h N + fb i * val W32 fa j * (W32 : Int) ^ i) := hv2
        have HS2 : Hid (∀ p, i + j ≤ p → h2 p = h p) := hs2
        clear hv2 hs2
        by_cases hjl : j < la
        · have hca : wr.cell? ⟨ba, oa + j, none⟩ = some (.int .u64 (fa j)) := (ha.upd hupd2 (.inl hga)) j hjl
          have hcg : wr.cell? ⟨g, off + i + j, none⟩ = some (.int .u64 (h2 (i + j))) := by rw [Nat.add_assoc]; exact hc2 (i + j) (by omega)
          have hfr : wr.frozen? ⟨g, off + i + j, none⟩ = false := by rw [Nat.add_assoc]; exact (hsoft.upd (hout.lt (by omega)) hupd2) (i + j) (by omega)
          have bx := ub i hlt
          have by' := ua j hjl
          have bh := hu2 (i + j) (by omega)
          unfold W32 at bx by' bh
          have hxy := mul_le_mul32 (fb i) (fa j) bx.1 bx.2 by'.1 by'.2
          have hm := and_mask (cr + (fb i * fa j + h2 (i + j))) (by omega) (by omega)
          go_wp2
          go_roundw
          case rel =>
            refine ⟨j + 1, put h2 (i + j) ((cr + (fb i * fa j + h2 (i + j))) % (W32 : Int)), (cr + (fb i * fa j + h2 (i + j))) / (W32 : Int), by omega, rfl, by go_num, by unfold W32; omega, by unfold W32; omega, ?_, ?_, ?_, ?_, ?_⟩
            · have := hc2.set (i + j) (by omega) ((cr + (fb i * fa j + h2 (i + j))) % (W32 : Int)); rw [← Nat.add_assoc] at this; exact this
            · exact put_bounds hu2 (by unfold W32; omega) (by unfold W32; omega)
            · intro p hp; rw [put_other _ _ _ _ (by omega)]; exact HS2.out p (by omega)
            · exact mul_step W32 h2 h fa N i j cr (fb i) _ (by omega) rfl HV2.out
            · have := hupd2.trans (Upd.set (w := wr) (b := g) (off := off) (n := N) (i + j) (by omega) (.int .u64 ((cr + (fb i * fa j + h2 (i + j))) % (W32 : Int)))); rw [← Nat.add_assoc] at this; exact this
          case measure => simp [intOf]; omega
        · have hjla : j = la := by omega
          subst hjla
          have hcg : wr.cell? ⟨g, off + (i + j), none⟩ = some (.int .u64 (h2 (i + j))) := hc2 (i + j) (by omega)
          have hfr : wr.frozen? ⟨g, off + (i + j), none⟩ = false := (hsoft.upd (hout.lt (by omega)) hupd2) (i + j) (by omega)
          go_wp2
          go_roundw
          case rel =>
            refine ⟨i + 1, put h2 (i + j) cr, by omega, by go_num, ?_, ?_, ?_, ?_, ?_⟩
            · exact hc2.set (i + j) (by omega) cr
            · exact put_bounds hu2 hcr0 (by unfold W32; omega)
            · intro p hp; rw [put_other _ _ _ _ (by omega), HS2.out p (by omega)]; exact HZ.out p (by omega)
            · exact mul_row_end W32 h2 h fa fb N i j cr (by omega) (by rw [HS2.out _ (by omega)]; exact HZ.out _ (by omega)) HV2.out HV.out
            · exact hupd2.trans (Upd.set (i + j) (by omega) _)
          case measure => simp [intOf]; omega
    · go_wp2
      have hil : i = lb := by omega
      subst hil
      go_end0
      exact ⟨rfl, h, hc, hu, hv, hupd⟩

/-- The product of two numbers in their forms. The shorter one has fewer than 40 limbs. -/
theorem rep_val {w : World} {v : Value} {m : Nat} (h : Rep w v m) : ∃ ao c, v = .slice ao (nl W32 m) c ∧ nl W32 m ≤ LIM := by
  obtain ⟨ao, c, rfl, _, hl, _⟩ := h
  exact ⟨ao, c, rfl, hl⟩

theorem u32_dg (m n : Nat) : U32 n (dg W32 m) := fun i _ => dg_bounds W32 m i (by decide)

set_option maxRecDepth 20000 in
set_option maxHeartbeats 1000000 in
/-- nat.product where the first is not the shorter one. -/
theorem product_long (u v : Value) (x y : Nat) (w : World) (hu : Rep w u x) (hv : Rep w v y) (hle : nl W32 y ≤ nl W32 x) (h40 : nl W32 y < 40) (hlim : nl W32 x ≤ 1000000) :
    Calls Tryd.prog 37 #[u, v] w fun e w' => ∃ r, e = .returned r ∧ RepM w.heap.size w' r (x * y) ∧ Below w.heap.size w w' := by
  obtain ⟨i0, hi, hz0, hz1, hz2⟩ := info_parts info_u64
  obtain ⟨ao, c, rfl, _, hl, h4⟩ := hu
  obtain ⟨bo, d, rfl, _, kl, k4⟩ := hv
  by_cases h0 : nl W32 y = 0
  · have hy : y = 0 := (nl_eq_zero W32 y (by decide)).1 h0
    subst hy
    rw [nl_zero] at *
    go_enter Tryd.func37, Tryd.ntmps37
    go_wp2
    go_ret
    exact ⟨_, rfl, by unfold RepM; rw [nl_zero]; exact Mine.nil _ _ _ _, Below.refl _ _⟩
  · obtain ⟨b1, o1, rfl, hc⟩ := h4 (by omega)
    obtain ⟨b2, o2, rfl, kc⟩ := k4 (by omega)
    have hb1 := hc.lt (by omega)
    have hb2 := kc.lt (by omega)
    have vx := val_nl W32 x (by decide)
    have vy := val_nl W32 y (by decide)
    clear h4 k4
    generalize nl W32 x = la at *
    generalize nl W32 y = lb at *
    have VX : Hid (val W32 (dg W32 x) la = (x : Int)) := vx
    have VY : Hid (val W32 (dg W32 y) lb = (y : Int)) := vy
    clear vx vy
    have hnl : ¬ la < lb := by omega
    have hne : ((lb : Int) == 0) = false := by simp; omega
    go_enter Tryd.func37, Tryd.ntmps37
    go_wp2_with (at_make; refine wpList_make_full _ rfl _ _ 23 rfl _ 51 i0 (.int .u64 0) 1 Tryd.underlying23 hi hz0 hz1 _ _ _ _ (la + lb) rfl rfl (by omega) (by omega) (by rw [hz2]; omega) (by unfold maxLen; omega) (Nat.le_refl _) ?_; intro w1 hown hgrow)
    have hbl := below_grown hgrow
    obtain ⟨hc1, hs1⟩ := mine_made (k := .u64) (w := w) hown (fun _ => 0) (fun i hi => made_zero .u64 (la + lb) i hi)
    clear hown hgrow
    refine (mulRows_any _ _ _ _ _ _ _ _ _ _ _ _ _ _ _ (Nat.le_refl _) (Nat.le_refl _) (by unfold LIM; omega) hc1 hs1 (hc.below hbl hb1) (kc.below hbl hb2) (by omega) (by omega) (u32_dg x la) (u32_dg y lb)).mono ?_
    rintro e w2 ⟨rfl, h, hch, huh, hvh, hupd⟩
    rw [VX.out, VY.out] at hvh
    have hMine : Mine .u64 w.heap.size w2 (.slice (some ⟨w.heap.size, 0, none⟩) (la + lb) (la + lb)) (la + lb) h := ⟨_, _, rfl, Nat.le_refl _, by unfold LIM; omega, fun _ => ⟨_, _, rfl, hch, hs1.upd (hc1.lt (by omega)) hupd, Nat.le_refl _⟩⟩
    have hbel : Below w.heap.size w w2 := hbl.trans (hupd.below (Nat.le_refl _) hbl.size)
    clear hc1 hs1
    go_wp2_with (go_at_call 63; refine (cut_mine _ _ _ _ _ (x * y) hMine huh (by rw [hvh]; simp)).mono ?_; rintro e w3 ⟨r, rfl, hr, rfl⟩)
    go_ret
    exact ⟨_, rfl, hr, hbel⟩

set_option maxRecDepth 20000 in
set_option maxHeartbeats 1000000 in
/-- nat.product where the first is the shorter one. -/
theorem product_short (u v : Value) (x y : Nat) (w : World) (hu : Rep w u x) (hv : Rep w v y) (hle : nl W32 y < nl W32 x) (h40 : nl W32 y < 40) (hlim : nl W32 x ≤ 1000000) :
    Calls Tryd.prog 37 #[v, u] w fun e w' => ∃ r, e = .returned r ∧ RepM w.heap.size w' r (x * y) ∧ Below w.heap.size w w' := by
  obtain ⟨i0, hi, hz0, hz1, hz2⟩ := info_parts info_u64
  obtain ⟨ao, c, rfl, _, hl, h4⟩ := hu
  obtain ⟨bo, d, rfl, _, kl, k4⟩ := hv
  by_cases h0 : nl W32 y = 0
  · have hy : y = 0 := (nl_eq_zero W32 y (by decide)).1 h0
    subst hy
    rw [nl_zero] at *
    go_enter Tryd.func37, Tryd.ntmps37
    go_wp2
    go_ret
    exact ⟨_, rfl, by unfold RepM; rw [nl_zero]; exact Mine.nil _ _ _ _, Below.refl _ _⟩
  · obtain ⟨b1, o1, rfl, hc⟩ := h4 (by omega)
    obtain ⟨b2, o2, rfl, kc⟩ := k4 (by omega)
    have hb1 := hc.lt (by omega)
    have hb2 := kc.lt (by omega)
    have vx := val_nl W32 x (by decide)
    have vy := val_nl W32 y (by decide)
    clear h4 k4
    generalize nl W32 x = la at *
    generalize nl W32 y = lb at *
    have VX : Hid (val W32 (dg W32 x) la = (x : Int)) := vx
    have VY : Hid (val W32 (dg W32 y) lb = (y : Int)) := vy
    clear vx vy
    have hnl : lb < la := by omega
    have hne : ((lb : Int) == 0) = false := by simp; omega
    go_enter Tryd.func37, Tryd.ntmps37
    go_wp2_with (at_make; refine wpList_make_full _ rfl _ _ 23 rfl _ 51 i0 (.int .u64 0) 1 Tryd.underlying23 hi hz0 hz1 _ _ _ _ (la + lb) rfl rfl (by omega) (by omega) (by rw [hz2]; omega) (by unfold maxLen; omega) (Nat.le_refl _) ?_; intro w1 hown hgrow)
    have hbl := below_grown hgrow
    obtain ⟨hc1, hs1⟩ := mine_made (k := .u64) (w := w) hown (fun _ => 0) (fun i hi => made_zero .u64 (la + lb) i hi)
    clear hown hgrow
    refine (mulRows_any _ _ _ _ _ _ _ _ _ _ _ _ _ _ _ (Nat.le_refl _) (Nat.le_refl _) (by unfold LIM; omega) hc1 hs1 (hc.below hbl hb1) (kc.below hbl hb2) (by omega) (by omega) (u32_dg x la) (u32_dg y lb)).mono ?_
    rintro e w2 ⟨rfl, h, hch, huh, hvh, hupd⟩
    rw [VX.out, VY.out] at hvh
    have hMine : Mine .u64 w.heap.size w2 (.slice (some ⟨w.heap.size, 0, none⟩) (la + lb) (la + lb)) (la + lb) h := ⟨_, _, rfl, Nat.le_refl _, by unfold LIM; omega, fun _ => ⟨_, _, rfl, hch, hs1.upd (hc1.lt (by omega)) hupd, Nat.le_refl _⟩⟩
    have hbel : Below w.heap.size w w2 := hbl.trans (hupd.below (Nat.le_refl _) hbl.size)
    clear hc1 hs1
    go_wp2_with (go_at_call 63; refine (cut_mine _ _ _ _ _ (x * y) hMine huh (by rw [hvh]; simp)).mono ?_; rintro e w3 ⟨r, rfl, hr, rfl⟩)
    go_ret
    exact ⟨_, rfl, hr, hbel⟩

theorem product_any (u v : Value) (x y : Nat) (w : World) (hu : Rep w u x) (hv : Rep w v y) (h40 : nl W32 x < 40 ∨ nl W32 y < 40) (hx : nl W32 x ≤ 1000000) (hy : nl W32 y ≤ 1000000) :
    Calls Tryd.prog 37 #[u, v] w fun e w' => ∃ r, e = .returned r ∧ RepM w.heap.size w' r (x * y) ∧ Below w.heap.size w w' := by
  by_cases h : nl W32 x < nl W32 y
  · rw [Nat.mul_comm]; exact product_short v u y x w hv hu h (by omega) hy
  · exact product_long u v x y w hu hv (by omega) (by omega) hx

set_option maxRecDepth 20000 in
set_option maxHeartbeats 400000 in
theorem mul_any (u v : Value) (n m : Nat) (f g : Nat → Int) (w : World) (hu : Nums .u64 w u n f) (hv : Nums .u64 w v m g) (hf : U64 n f) (hg : U64 m g) (h40 : n < 40 ∨ m < 40) (hn : n ≤ 1000000) (hm : m ≤ 1000000) :
    Calls Tryd.prog 38 #[u, v] w fun e w' => ∃ r, e = .returned r ∧ RepM w.heap.size w' r (num f n * num g m) ∧ Below w.heap.size w w' := by
  have hx := nl_le W32 (num f n) n (by decide) (num_lt f n)
  have hy := nl_le W32 (num g m) m (by decide) (num_lt g m)
  go_enter Tryd.func38, Tryd.ntmps38
  go_wp2_with fail
  refine (plain_any _ _ _ _ hu hf).mono ?_
  rintro e w1 ⟨r1, rfl, hr1, hb1⟩
  go_wp2_with fail
  refine (plain_any _ _ _ _ (hv.below hb1) hg).mono ?_
  rintro e w2 ⟨r2, rfl, hr2, hb2⟩
  go_wp2_with fail
  refine (product_any _ _ _ _ _ (Nums.below hr1 hb2) hr2 (by omega) (by omega) (by omega)).mono ?_
  rintro e w3 ⟨r, rfl, hr, hb3⟩
  go_wp2
  go_ret
  have := hb1.size
  have := hb2.size
  exact ⟨_, rfl, hr.le (by omega), hb1.trans ((hb2.mono (by omega)).trans (hb3.mono (by omega)))⟩

end Go.Proofs.YthhabammejkjcaaDoor
