/-
  What nat.writeChunks leaves: the decimal digits of a number, zeros ahead.
-/
import Derived.Test.YthhabammejkjcaaDoorDivMod
namespace Go.Proofs.YthhabammejkjcaaDoor
open Go.RowKit

/-- The decimal digit of 10^p. -/
def dd (x p : Nat) : Int := 48 + ((x / 10 ^ p % 10 : Nat) : Int)
theorem dd_bounds (x p : Nat) : 48 ≤ dd x p ∧ dd x p ≤ 57 := by unfold dd; omega
theorem dd_chunk (x k i : Nat) (hi : i < 9) : 48 + ((x / 10 ^ (9 * k) % 1000000000 / 10 ^ i % 10 : Nat) : Int) = dd x (9 * k + i) := by
  unfold dd
  rw [Nat.pow_add, ← Nat.div_div_eq_div_mul]
  generalize x / 10 ^ (9 * k) = y
  have e : (1000000000 : Nat) = 10 ^ i * (10 * 10 ^ (8 - i)) := by
    have : (1000000000 : Nat) = 10 ^ (i + (1 + (8 - i))) := by rw [show i + (1 + (8 - i)) = 9 by omega]
    rw [this, Nat.pow_add, Nat.pow_add, Nat.pow_one]
  rw [e, Nat.mod_mul_right_div_self, Nat.mod_mul_right_mod]

theorem chunk_next (x k : Nat) : x / 10 ^ (9 * k) / 1000000000 = x / 10 ^ (9 * (k + 1)) := by
  rw [Nat.div_div_eq_div_mul, Nat.mul_add, Nat.pow_add]

set_option maxRecDepth 20000 in
set_option maxHeartbeats 4000000 in
theorem chunks_any (B go oo L c K : Nat) (va : Value) (x : Nat) (h0 : Nat → Int) (w : World) (hL : L = 9 * K) (hlim : L ≤ LIM) (hB : go < B) (hBw : B ≤ w.heap.size)
    (hout : Cells w .u8 go oo L h0) (hsoft : Soft w go oo L) (ha : RepM B w va x) :
    Calls Tryd.prog 87 #[.slice (some ⟨go, oo, none⟩) L c, va] w fun e w' =>
      e = .returned (.tuple #[]) ∧ Cells w' .u8 go oo L (fun i => dd x (L - 1 - i)) ∧ UpdB B w w' go oo L := by
  have HL : Hid (L = 9 * K) := hL
  clear hL
  unfold LIM at hlim
  go_enter Tryd.func87, Tryd.ntmps87
  go_wp2
  go_loopw [1, 4] (fun v ve wr => ∃ (k en : Nat) (h : Nat → Int), en + 9 * k = L ∧ ve = .int .i64 (en : Int) ∧ RepM B wr v (x / 10 ^ (9 * k)) ∧ Cells wr .u8 go oo L h ∧ (∀ i, i < L → en ≤ i → h i = dd x (L - 1 - i)) ∧ UpdB B w wr go oo L) (fun _ ve _ => (intOf ve).toNat)
  case atStart => exact ⟨0, L, h0, by omega, rfl, by simpa using ha, hout, fun i h1 h2 => by omega, UpdB.refl _ _ _ _ _⟩
  case round =>
    obtain ⟨k, en, h, hen, rfl, hrep, hc, hdig, hupd⟩ := hrel
    have HEN : Hid (en + 9 * k = L) := hen
    have henL : en ≤ L := by omega
    have HD : Hid (∀ i, i < L → en ≤ i → h i = dd x (L - 1 - i)) := hdig
    clear hen hdig
    have hsz := hupd.size
    by_cases hpos : 0 < en
    · have h9 : 9 ≤ en := by have := HEN.out; have := HL.out; omega
      go_wp2_with fail
      refine (divLimb_mine _ _ _ _ _ _ hrep (by omega) (u32_dg _ _) (by omega) (by omega)).mono ?_
      rintro e w3 ⟨r, h3, rfl, hr0, hr1, hmine, huh, hvh, hb3⟩
      rw [val_nl W32 _ (by decide)] at hvh
      obtain ⟨hq1, hr2⟩ := quo_rem _ 1000000000 r _ (by omega) hr0 hr1 hvh
      rw [chunk_next] at hq1
      have HQ : Hid (val W32 h3 (nl W32 (x / 10 ^ (9 * k))) = ((x / 10 ^ (9 * (k + 1)) : Nat) : Int)) := hq1
      have HR : Hid (r = ((x / 10 ^ (9 * k) % 1000000000 : Nat) : Int)) := hr2
      clear hq1 hr2 hvh
      have hupd4 : UpdB B w w3 go oo L := hupd.trans (UpdB.of_below hb3 hB)
      have hc3 := hc.below hb3 hB
      clear hc hupd hrep
      go_wp2_with fail
      refine (cut_mine _ _ _ _ _ _ hmine huh HQ.out).mono ?_
      rintro e w4 ⟨v4, rfl, hv4, rfl⟩
      clear hmine huh HQ hb3
      go_wp2
      go_loopw [5, 17] (fun vc vi w2 => ∃ (i : Nat) (h2 : Nat → Int), i ≤ 9 ∧ vc = .int .u64 ((x / 10 ^ (9 * k) % 1000000000 / 10 ^ i : Nat) : Int) ∧ vi = .int .i64 (i : Int) ∧ RepM B w2 v4 (x / 10 ^ (9 * (k + 1))) ∧ Cells w2 .u8 go oo L h2 ∧ (∀ p, p < L → en - i ≤ p → h2 p = dd x (L - 1 - p)) ∧ UpdB B w w2 go oo L) (fun _ vi _ => 9 - (intOf vi).toNat)
      case atStart => exact ⟨0, h, by omega, by rw [HR.out]; simp, rfl, hv4, hc3, fun p h1 h2 => HD.out p h1 (by omega), hupd4⟩
      case round =>
        obtain ⟨i, h2, hi, rfl, rfl, hrep2, hc2, hd2, hupd2⟩ := hrel
        have HD2 : Hid (∀ p, p < L → en - i ≤ p → h2 p = dd x (L - 1 - p)) := hd2
        clear hd2
        by_cases hi9 : i < 9
        · have hch : Hid (48 + ((x / 10 ^ (9 * k) % 1000000000 / 10 ^ i % 10 : Nat) : Int) = dd x (9 * k + i)) := dd_chunk x k i hi9
          have hcn : Hid (x / 10 ^ (9 * k) % 1000000000 / 10 ^ (i + 1) = x / 10 ^ (9 * k) % 1000000000 / 10 ^ i / 10) := by
            show _ = _
            rw [Nat.pow_succ, Nat.div_div_eq_div_mul]
          have hcb : x / 10 ^ (9 * k) % 1000000000 / 10 ^ i ≤ 1000000000 := Nat.le_trans (Nat.div_le_self _ _) (by omega)
          generalize x / 10 ^ (9 * k) % 1000000000 / 10 ^ i = ch at *
          have hcell := hc2 (en - 1 - i) (by omega)
          have hfr := (hsoft.updB hupd2) (en - 1 - i) (by omega)
          have hp : ((en : Int) - 1 - (i : Int)) = ((en - 1 - i : Nat) : Int) := by omega
          go_wp2
          go_roundw
          case rel =>
            refine ⟨i + 1, put h2 (en - 1 - i) (48 + (ch : Int) % 10), by omega, ?_, by go_num, Mine.setLow hrep2 (by exact hB) _, hc2.set (en - 1 - i) (by omega) _, ?_, ?_⟩
            · rw [hcn.out]; simp
            · intro p h1 h3
              by_cases e : p = en - 1 - i
              · rw [e, put_same]
                have e2 := hch.out
                have e3 := HEN.out
                rw [show L - 1 - (en - 1 - i) = 9 * k + i by omega, ← e2]; simp
              · rw [put_other _ _ _ _ e]; exact HD2.out p h1 (by omega)
            · exact hupd2.trans (UpdB.of_upd (Upd.set (en - 1 - i) (by omega) _) (by have := hupd2.size; omega))
          case measure => simp [intOf]; omega
        · go_wp2
          have hi9' : i = 9 := by omega
          subst hi9'
          go_roundw
          case rel =>
            have e3 := HEN.out
            refine ⟨k + 1, en - 9, h2, by omega, by go_num, hrep2, hc2, fun p h1 h3 => HD2.out p h1 (by omega), hupd2⟩
          case measure => simp [intOf]; omega
    · go_wp2
      go_end0
      have : en = 0 := by omega
      subst this
      exact ⟨rfl, hc.congr (fun i hi => HD.out i hi (by omega)), hupd⟩

end Go.Proofs.YthhabammejkjcaaDoor
