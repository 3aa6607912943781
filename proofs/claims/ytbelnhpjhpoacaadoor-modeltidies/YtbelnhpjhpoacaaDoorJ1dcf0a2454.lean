/-
  Texts of mine.
-/
import Derived.Test.YtbelnhpjhpoacaaDoorJ1460922d27
import Derived.Laws.BytesArg
namespace Go.Proofs.YtbelnhpjhpoacaaDoor
open Go.RowKit

/-- How many decimal digits are written. -/
def ndec (x : Nat) : Nat := if nl 10 x = 0 then 1 else nl 10 x
/-- The n decimal digits of x. -/
def decs (x n : Nat) : List Int := (List.range n).map (fun i => dd x (n - 1 - i))
/-- The text of x. -/
def txt (x : Nat) : ByteArray := strOfNums (decs x (ndec x))
theorem decs_length (x n : Nat) : (decs x n).length = n := by simp [decs]
theorem decs_at (x n i : Nat) (h : i < n) : (decs x n).getD i 0 = dd x (n - 1 - i) := by simp [decs, List.getD, h]
theorem dd_dg (x p : Nat) : dd x p = 48 + dg 10 x p := rfl

theorem strip_end (x W a : Nat) (hx : x < 10 ^ W) (ha : a < W) (hz : ∀ i, i < a → dd x (W - 1 - i) = 48) (he : a + 1 = W ∨ dd x (W - 1 - a) ≠ 48) : W - a = ndec x := by
  have hn : nl 10 x = sz (dg 10 x) W := nl_spec 10 x W (by decide) hx
  have hzero : ∀ p, W - a ≤ p → p < W → dg 10 x p = 0 := fun p h1 h2 => by
    have := hz (W - 1 - p) (by omega)
    rw [show W - 1 - (W - 1 - p) = p by omega, dd_dg] at this; omega
  unfold ndec
  by_cases hd : dg 10 x (W - 1 - a) = 0
  · have hw : a + 1 = W := by
      rcases he with h | h
      · exact h
      · rw [dd_dg, hd] at h; exact absurd rfl h
    have e0 : sz (dg 10 x) W = 0 := sz_unique _ W 0 (by omega) (by omega) (fun i _ h2 => by
      by_cases hi : i = 0
      · rw [hi, show (0 : Nat) = W - 1 - a by omega]; exact hd
      · exact hzero i (by omega) h2)
    rw [hn, e0, if_pos rfl]; omega
  · have e0 : sz (dg 10 x) W = W - a := sz_unique _ W (W - a) (by omega) (fun _ => by rw [show W - a - 1 = W - 1 - a by omega]; exact hd) hzero
    rw [hn, e0, if_neg (by omega)]

theorem width_fits : ∀ l, l < 30 → 4294967296 ^ l ≤ 10 ^ ((l + l / 8 + 1) * 9) := by decide +kernel

set_option maxRecDepth 20000 in
set_option maxHeartbeats 400000 in
theorem blockTens_short (n : Nat) (w : World) (h : n ≤ 29) :
    Calls Tryd.prog 71 #[.int .i64 (n : Int)] w fun e w' => e = .returned (.slice none 0 0) ∧ w' = w := by
  go_enter Tryd.func71, Tryd.ntmps71
  go_wp2
  go_ret
  exact ⟨rfl, rfl⟩

set_option maxRecDepth 20000 in
set_option maxHeartbeats 400000 in
theorem writeBlocks_short (go oo L c K : Nat) (va : Value) (x : Nat) (h0 : Nat → Int) (w : World) (hL : L = 9 * K) (hlim : L ≤ LIM) (hgo : go < w.heap.size)
    (hout : Cells w .u8 go oo L h0) (hsoft : Soft w go oo L) (ha : Rep w va x) :
    Calls Tryd.prog 72 #[.slice (some ⟨go, oo, none⟩) L c, va, .slice none 0 0] w fun e w' =>
      e = .returned (.tuple #[]) ∧ Cells w' .u8 go oo L (fun i => dd x (L - 1 - i)) ∧ UpdB w.heap.size w w' go oo L := by
  have HL : Hid (L = 9 * K) := hL
  clear hL
  go_enter Tryd.func72, Tryd.ntmps72
  go_wp2_with fail
  refine (clean_rep _ _ _ ha).mono ?_
  rintro e w1 ⟨v1, rfl, hv1, hb1⟩
  go_wp2_with fail
  refine (chunks_any w.heap.size _ _ _ _ K _ x h0 _ HL.out hlim hgo hb1.size (hout.below hb1 hgo) (hsoft.below hb1 hgo) hv1).mono ?_
  rintro e w2 ⟨rfl, hc2, hu2⟩
  go_wp2
  refine bodyPost_ret (results_none rfl _ _ _) rfl ?_
  exact ⟨rfl, hc2, (UpdB.of_below hb1 hgo).trans hu2⟩

theorem info_u8 : (Tryd.prog.info? 5).map (fun i => (i.zero, i.size, i.bytes)) = some (some (.int .u8 0), 1, 1) := by kernel_rfl

set_option maxRecDepth 20000 in
set_option maxHeartbeats 1000000 in
theorem print_short (v : Value) (n : Nat) (f : Nat → Int) (w : World) (hv : Nums .u64 w v n f) (hf : U64 n f) (h29 : nl W32 (num f n) ≤ 29) :
    Calls Tryd.prog 48 #[v] w fun e w' => e = .returned (.string (txt (num f n))) ∧ Below w.heap.size w w' := by
  obtain ⟨i0, hi, hz0, hz1, hz2⟩ := info_parts info_u8
  have hfit := width_fits (nl W32 (num f n)) (by omega)
  have hxl := lt_pow_nl W32 (num f n) (by decide)
  generalize hx : num f n = x at *
  have hxW : Hid (x < 10 ^ ((nl W32 x + nl W32 x / 8 + 1) * 9)) := by
    show x < _
    have : W32 ^ nl W32 x ≤ 10 ^ ((nl W32 x + nl W32 x / 8 + 1) * 9) := hfit
    omega
  clear hfit hxl
  go_enter Tryd.func48, Tryd.ntmps48
  go_wp2_with fail
  refine (plain_any _ _ _ _ hv hf).mono ?_
  rintro e w1 ⟨v1, rfl, hv1, hb1⟩
  rw [hx] at hv1
  obtain ⟨ao, c, rfl, hl⟩ := rep_val hv1
  generalize hla : nl W32 x = la at *
  go_wp2_with fail
  refine (blockTens_short _ _ h29).mono ?_
  rintro e w2 ⟨rfl, rfl⟩
  obtain ⟨W, hW⟩ : ∃ W, W = (la + la / 8 + 1) * 9 := ⟨_, rfl⟩
  have hWb : 9 ≤ W ∧ W ≤ 1000 := by omega
  have hW9 : Hid (W = 9 * (la + la / 8 + 1)) := by show W = _; omega
  rw [← hW] at hxW
  have HW : Hid (W = (la + la / 8 + 1) * 9) := hW
  clear hW
  go_wp2_with (at_make; refine wpList_make_full _ rfl _ _ 50 rfl _ 5 i0 (.int .u8 0) 1 Tryd.underlying50 hi hz0 hz1 _ _ _ _ W rfl rfl (by have := HW.out; omega) (by have := HW.out; omega) (by rw [hz2]; omega) (by unfold maxLen; omega) (Nat.le_refl _) ?_; intro w3 hown hgrow)
  have hb3 := below_grown hgrow
  obtain ⟨hc3, hs3⟩ := mine_made (k := .u8) (w := w2) hown (fun _ => 0) (fun i hi => made_zero .u8 W i hi)
  clear hown hgrow
  have hlt3 := hc3.lt (by omega)
  refine (writeBlocks_short _ _ _ _ (la + la / 8 + 1) _ x _ _ hW9.out (by unfold LIM; omega) hlt3 hc3 hs3 (Nums.below hv1 hb3)).mono ?_
  rintro e w4 ⟨rfl, hc4, hu4⟩
  have s1 := hb1.size
  have s3 := hb3.size
  have s4 := hu4.size
  have hbel : Below w.heap.size w w4 := hb1.trans ((hb3.mono (by omega)).trans (hu4.below (by omega) (by omega)))
  clear hc3 hs3 hb3 hu4
  go_wp2
  go_loop [6] (fun v => ∃ a : Nat, a < W ∧ v = .int .i64 (a : Int) ∧ ∀ i, i < a → dd x (W - 1 - i) = 48) (fun v => W - (intOf v).toNat)
  case atStart => exact ⟨0, by omega, rfl, fun i hi => by omega⟩
  case round =>
    obtain ⟨a, ha, rfl, hz⟩ := hrel
    have HZ : Hid (∀ i, i < a → dd x (W - 1 - i) = 48) := hz
    clear hz
    have hcell : w4.cell? ⟨w2.heap.size, a, none⟩ = some (.int .u8 (dd x (W - 1 - a))) := by have := hc4 a ha; rw [Nat.zero_add] at this; exact this
    have hconv := run_convert_bytes_arg (P := Tryd.prog) w4 50 5 Tryd.underlying50 Tryd.underlying5 w2.heap.size a (W - a) (W - a) (decs x (W - a)) (decs_length _ _)
      (fun i hi => by rw [decs_at _ _ _ hi]; have := hc4 (a + i) (by omega); rw [Nat.zero_add] at this; rw [show W - a - 1 - i = W - 1 - (a + i) by omega]; exact this) 9 Tryd.underlying9
    by_cases hlast : a + 1 < W
    · have hg : decide ((a : Int) < (W : Int) - 1) = true := by simp; omega
      by_cases h48 : dd x (W - 1 - a) = 48
      · have hbq : (dd x (W - 1 - a) == 48) = true := by simp [h48]
        have H48 : Hid (dd x (W - 1 - a) = 48) := h48
        clear h48
        go_wp2
        go_round
        case rel => exact ⟨a + 1, by omega, by go_num, fun i hi => by by_cases e : i = a; exact e ▸ H48.out; exact HZ.out i (by omega)⟩
        case measure => simp [intOf]; omega
      · have hbq : (dd x (W - 1 - a) == 48) = false := by simp [h48]
        go_wp2
        go_ret
        have hend := strip_end x W a hxW.out ha HZ.out (.inr h48)
        refine ⟨?_, hbel⟩
        show Ending.returned (.string (strOfNums (decs x (W - a)))) = _
        rw [hend]; rfl
    · have hg : decide ((a : Int) < (W : Int) - 1) = false := by simp; omega
      go_wp2
      go_ret
      have hend := strip_end x W a hxW.out ha HZ.out (.inl (by omega))
      refine ⟨?_, hbel⟩
      show Ending.returned (.string (strOfNums (decs x (W - a)))) = _
      rw [hend]; rfl

end Go.Proofs.YtbelnhpjhpoacaaDoor
