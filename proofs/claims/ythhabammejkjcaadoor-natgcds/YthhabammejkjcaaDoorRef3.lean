/-
  What the document's own Times answers: the product.
-/
import Derived.Test.YthhabammejkjcaaDoorRef2
namespace Go.Proofs.YthhabammejkjcaaDoor
open Go.RowKit

theorem mul_le_dig (x y : Int) (h0 : 0 ≤ x) (h1 : x < 10000) (h2 : 0 ≤ y) (h3 : y < 10000) : 0 ≤ x * y ∧ x * y ≤ 99980001 := by
  refine ⟨Int.mul_nonneg h0 h2, ?_⟩
  have a := Int.mul_le_mul_of_nonneg_right (show x ≤ 9999 by omega) h2
  omega

set_option maxRecDepth 20000 in
set_option maxHeartbeats 2000000 in
theorem times_any (u v : Value) (x y : Nat) (w : World) (hu : RepD w u x) (hv : RepD w v y) (hlx : nl 10000 x ≤ 1000000) (hly : nl 10000 y ≤ 1000000) :
    Calls Tryd.prog 13 #[u, v] w fun e w' => ∃ r, e = .returned r ∧ RepD w' r (x * y) ∧ Below w.heap.size w w' := by
  obtain ⟨i0, hi, hz0, hz1, hz2⟩ := info_parts info_int
  obtain ⟨ao, c, rfl, _, hl, h4⟩ := hu
  obtain ⟨bo, d, rfl, _, kl, k4⟩ := hv
  have VX : Hid (val 10000 (dg 10000 x) (nl 10000 x) = (x : Int)) := val_nl 10000 x (by decide)
  have VY : Hid (val 10000 (dg 10000 y) (nl 10000 y) = (y : Int)) := val_nl 10000 y (by decide)
  have DX := dig_dg x (nl 10000 x)
  have DY := dig_dg y (nl 10000 y)
  generalize nl 10000 x = la at *
  generalize nl 10000 y = lb at *
  generalize hfx : dg 10000 x = fa at *
  generalize hfy : dg 10000 y = fb at *
  clear hfx hfy
  have H4 := show Hid (0 < la → ∃ b off, ao = some ⟨b, off, none⟩ ∧ Cells w .i64 b off la fa) from h4
  have K4 := show Hid (0 < lb → ∃ b off, bo = some ⟨b, off, none⟩ ∧ Cells w .i64 b off lb fb) from k4
  clear h4 k4
  go_enter Tryd.func13, Tryd.ntmps13
  go_wp2_with (at_make; refine wpList_make_full _ rfl _ _ 26 rfl _ 3 i0 (.int .i64 0) 1 Tryd.underlying26 hi hz0 hz1 _ _ _ _ (la + lb) rfl rfl (by omega) (by omega) (by rw [hz2]; omega) (by unfold maxLen; omega) (Nat.le_refl _) ?_; intro w1 hown hgrow)
  have hbl := below_grown hgrow
  obtain ⟨hc1, hs1⟩ := mine_made (k := .i64) (w := w) hown (fun _ => 0) (fun i hi => made_zero .i64 (la + lb) i hi)
  clear hown hgrow
  have hsz := hbl.size
  go_loopw [6] (fun v wr => ∃ (i : Nat) (h : Nat → Int), i ≤ la ∧ v = .int .i64 (i : Int) ∧ Cells wr .i64 w.heap.size 0 (la + lb) h ∧ Dig (la + lb) h ∧ (∀ p, i + lb ≤ p → h p = 0) ∧ val 10000 h (la + lb) = val 10000 fb lb * val 10000 fa i ∧ Soft wr w.heap.size 0 (la + lb) ∧ Below w.heap.size w wr) (fun v _ => la - (intOf v).toNat)
  case atStart => exact ⟨0, fun _ => 0, Nat.zero_le _, rfl, hc1, fun _ _ => ⟨Int.le_refl _, (by decide : (0 : Int) < ((10000 : Nat) : Int))⟩, fun _ _ => rfl, by rw [val_zero _ (fun _ _ => rfl)]; simp [val], hs1, hbl⟩
  case round =>
    obtain ⟨i, h, hi', rfl, hc, hd, hz, hv, hsf, hbel⟩ := hrel
    have hs := hbel.size
    by_cases hlt : i < la
    · have HV : Hid (val 10000 h (la + lb) = val 10000 fb lb * val 10000 fa i) := hv
      have HZ : Hid (∀ p, i + lb ≤ p → h p = 0) := hz
      clear hv hz
      go_wp2
      go_loopw [7, 8] (fun vc vj w2 => ∃ (j : Nat) (h2 : Nat → Int) (cr : Int), j ≤ lb ∧ vc = .int .i64 cr ∧ vj = .int .i64 (j : Int) ∧ 0 ≤ cr ∧ cr < 10000 ∧ Cells w2 .i64 w.heap.size 0 (la + lb) h2 ∧ Dig (la + lb) h2 ∧ (∀ p, i + j ≤ p → h2 p = h p) ∧
          val 10000 h2 (la + lb) + cr * ((10000 : Nat) : Int) ^ (i + j) = val 10000 h (la + lb) + fa i * val 10000 fb j * ((10000 : Nat) : Int) ^ i ∧ Soft w2 w.heap.size 0 (la + lb) ∧ Below w.heap.size w w2) (fun _ vj _ => lb - (intOf vj).toNat)
      case atStart => exact ⟨0, h, 0, Nat.zero_le _, rfl, rfl, Int.le_refl _, by decide, hc, hd, fun _ _ => rfl, by simp [val], hsf, hbel⟩
      case round =>
        clear hc hsf hbel hs
        obtain ⟨j, h2, cr, hj, rfl, rfl, hcr0, hcr1, hc2, hd2, hs2, hv2, hsf2, hbel2⟩ := hrel
        have HV2 : Hid (val 10000 h2 (la + lb) + cr * ((10000 : Nat) : Int) ^ (i + j) = val 10000 h (la + lb) + fa i * val 10000 fb j * ((10000 : Nat) : Int) ^ i) := hv2
        have HS2 : Hid (∀ p, i + j ≤ p → h2 p = h p) := hs2
        clear hv2 hs2
        have hcg : i + j < la + lb → wr.cell? ⟨w.heap.size, i + j, none⟩ = some (.int .i64 (h2 (i + j))) := fun q => by have := hc2 (i + j) q; rw [Nat.zero_add] at this; exact this
        have hfr : i + j < la + lb → wr.frozen? ⟨w.heap.size, i + j, none⟩ = false := fun q => by have := hsf2 (i + j) q; rw [Nat.zero_add] at this; exact this
        by_cases hjl : j < lb
        · obtain ⟨b1, o1, rfl, ha⟩ := H4.out (by omega)
          obtain ⟨b2, o2, rfl, hb⟩ := K4.out (by omega)
          have hca : wr.cell? ⟨b1, o1 + i, none⟩ = some (.int .i64 (fa i)) := (ha.below hbel2 (ha.lt (by omega))) i hlt
          have hcb : wr.cell? ⟨b2, o2 + j, none⟩ = some (.int .i64 (fb j)) := (hb.below hbel2 (hb.lt (by omega))) j hjl
          have bx := DX i hlt
          have by' := DY j hjl
          have bh := hd2 (i + j) (by omega)
          have hcg' := hcg (by omega)
          have hfr' := hfr (by omega)
          clear hcg hfr
          have hxy := mul_le_dig (fa i) (fb j) bx.1 (by omega) by'.1 (by omega)
          have i1 : (0 : Int) ≤ (i : Int) + (j : Int) := by omega
          have i2 : (i : Int) + (j : Int) < (la : Int) + (lb : Int) := by omega
          go_wp2
          go_quiet (fail)
          go_wp2
          go_roundw
          case rel =>
            have ht : cr + h2 (i + j) + fa i * fb j = cr + (fa i * fb j + h2 (i + j)) := by omega
            rw [ht]
            refine ⟨j + 1, put h2 (i + j) ((cr + (fa i * fb j + h2 (i + j))) % ((10000 : Nat) : Int)), (cr + (fa i * fb j + h2 (i + j))) / ((10000 : Nat) : Int), by omega, rfl, by go_num, by omega, by omega, ?_, ?_, ?_, ?_, ?_, ?_⟩
            · have := hc2.set (i + j) (by omega) ((cr + (fa i * fb j + h2 (i + j))) % ((10000 : Nat) : Int)); rw [Nat.zero_add] at this; exact this
            · exact put_bounds hd2 (by omega) (by omega)
            · intro p hp; rw [put_other _ _ _ _ (by omega)]; exact HS2.out p (by omega)
            · exact mul_step 10000 h2 h fb (la + lb) i j cr (fa i) _ (by omega) rfl HV2.out
            · exact hsf2.set _ _
            · exact (below_drewN hbel2 _).setCell (by simp) _
          case measure => simp [intOf]; omega
        · have hjl' : j = lb := by omega
          subst hjl'
          have hcg' := hcg (by omega)
          have hfr' := hfr (by omega)
          clear hcg hfr
          have i1 : (0 : Int) ≤ (i : Int) + (j : Int) := by omega
          have i2 : (i : Int) + (j : Int) < (la : Int) + (j : Int) := by omega
          go_wp2
          go_roundw
          case rel =>
            refine ⟨i + 1, put h2 (i + j) cr, by omega, by go_num, ?_, ?_, ?_, ?_, ?_, ?_⟩
            · have := hc2.set (i + j) (by omega) cr; rw [Nat.zero_add] at this; exact this
            · exact put_bounds hd2 hcr0 (by omega)
            · intro p hp; rw [put_other _ _ _ _ (by omega), HS2.out p (by omega)]; exact HZ.out p (by omega)
            · exact mul_row_end 10000 h2 h fb fa (la + j) i j cr (by omega) (by rw [HS2.out _ (by omega)]; exact HZ.out _ (by omega)) HV2.out HV.out
            · exact hsf2.set _ _
            · exact hbel2.setCell (by simp) _
          case measure => simp [intOf]; omega
    · have hia : i = la := by omega
      subst hia
      rw [VX.out, VY.out] at hv
      have HVV : Hid (val 10000 h (i + lb) = ((x * y : Nat) : Int)) := by show _ = _; rw [hv, Int.mul_comm]; simp
      clear hv hz
      have hN : Nums .i64 wr (.slice (some ⟨w.heap.size, 0, none⟩) (i + lb) (i + lb)) (i + lb) h := ⟨_, _, rfl, Nat.le_refl _, by unfold LIM; omega, fun _ => ⟨_, _, rfl, hc⟩⟩
      go_wp2_with (go_at_call 42; refine (trim_any _ _ _ _ hN).mono ?_; rintro e w3 ⟨r, rfl, hr, rfl⟩)
      go_ret
      refine ⟨_, rfl, ?_, hbel⟩
      rw [sz_val 10000 (by decide) h _ (x * y) hd HVV.out] at hr
      exact hr.congr (fun p hp => val_digit 10000 h _ (x * y) hd HVV.out p (Nat.lt_of_lt_of_le hp (by rw [← sz_val 10000 (by decide) h _ (x * y) hd HVV.out]; exact sz_le _ _)))

end Go.Proofs.YthhabammejkjcaaDoor
