/-
  What nat.Print and nat.Digits answer of any number.
-/
import Derived.Test.YthhabammejkjcaaDoorTensRow
namespace Go.Proofs.YthhabammejkjcaaDoor
open Go.RowKit

set_option maxRecDepth 20000 in
set_option maxHeartbeats 1000000 in
theorem print_long (v : Value) (n : Nat) (f : Nat → Int) (w : World) (hv : Nums .u64 w v n f) (hf : U64 n f) (h29 : 29 < nl W32 (num f n)) (hn : n ≤ 10000) :
    Calls Tryd.prog 41 #[v] w fun e w' => e = .returned (.string (txt (num f n))) ∧ Below w.heap.size w w' := by
  obtain ⟨i0, hi, hz0, hz1, hz2⟩ := info_parts info_u8
  have hxl := lt_pow_nl W32 (num f n) (by decide)
  have hxn := nl_le W32 (num f n) n (by decide) (num_lt f n)
  generalize hx : num f n = x at *
  go_enter Tryd.func41, Tryd.ntmps41
  go_wp2_with fail
  refine (plain_any _ _ _ _ hv hf).mono ?_
  rintro e w1 ⟨v1, rfl, hv1, hb1⟩
  rw [hx] at hv1
  have hv1' : Rep w1 v1 x := hv1
  obtain ⟨ao, c, rfl, hl⟩ := rep_val hv1
  have HRX : Hid (Rep w1 (.slice ao (nl W32 x) c) x) := hv1'
  have HX9 : Hid (nl W32 x ≤ 900000) := by show _ ≤ _; omega
  clear hv1 hv1'
  generalize hla : nl W32 x = la at *
  go_wp2_with fail
  refine (blockTens_any la _ (by omega) (by omega)).mono ?_
  rintro e w2 ⟨vt, rfl, t, hT, ht, hfit, hb2⟩
  have hxW : Hid (x < 10 ^ (288 * 2 ^ (t + 1))) := by show x < ten (t + 1); omega
  have hw9 : 2 ^ (t + 1) ≤ 2 ^ 14 := Nat.pow_le_pow_right (by omega) (by omega)
  have hw1 : 0 < 2 ^ (t + 1) := Nat.two_pow_pos _
  have HWR : Hid (WritesAt (t + 1)) := writes_all (t + 1) (by omega)
  obtain ⟨W, hW⟩ : ∃ W, W = 288 * 2 ^ (t + 1) := ⟨_, rfl⟩
  have hWb : 9 ≤ W ∧ W ≤ 10000000 := by omega
  have HW : Hid (W = 288 * 2 ^ (t + 1)) := hW
  have hwr : wrap64 ((288 : Int) * 2 ^ (t + 1)) = (W : Int) := by
    have e : ((288 : Int) * 2 ^ (t + 1)) = (W : Int) := by rw [hW]; simp
    rw [e]; unfold wrap64; omega
  have hWm : W ≤ maxLen := by unfold maxLen; omega
  have hWa : i0.bytes * W ≤ 281474976710656 := by rw [hz2]; omega
  rw [← hW] at hxW
  have hT' := hT
  obtain ⟨bo, tc, rfl, htc, hT4⟩ := hT'
  clear hT4 hW hw9 hw1 hfit hxl
  go_wp2_with (at_make; refine wpList_make_full _ rfl _ _ 97 rfl _ 5 i0 (.int .u8 0) 1 Tryd.underlying97 hi hz0 hz1 .i64 .i64 (wrap64 ((288 : Int) * 2 ^ (t + 1))) (wrap64 ((288 : Int) * 2 ^ (t + 1))) W rfl rfl hwr hwr hWa hWm (Nat.le_refl _) ?_; intro w3 hown hgrow)
  clear hwr hWa hWm
  have hb3 := below_grown hgrow
  obtain ⟨hc3, hs3⟩ := mine_made (k := .u8) (w := w2) hown (fun _ => 0) (fun i hi => made_zero .u8 W i hi)
  clear hown hgrow
  have hlt3 := hc3.lt (by omega)
  have hT3 := hT.below hb3
  have hx3 := Nums.below (Nums.below HRX.out hb2) hb3
  have hWR := HWR.out
  unfold WritesAt at hWR
  rw [← HW.out] at hWR
  have hX9 : nl W32 x ≤ 900000 := by rw [hla]; exact HX9.out
  have HCALL : Hid (Calls Tryd.prog 73 #[.slice (some ⟨w2.heap.size, 0, none⟩) W W, .slice ao la c, .slice bo (t + 1) tc] w3 fun e w' =>
      e = .returned (.tuple #[]) ∧ Cells w' .u8 w2.heap.size 0 W (fun i => dd x (W - 1 - i)) ∧ UpdB w3.heap.size w3 w' w2.heap.size 0 W) :=
    hWR w2.heap.size 0 W w2.heap.size _ _ x _ w3 (Nat.le_refl _) hlt3 (Nat.le_refl _) hc3 hs3 hx3 hX9 hT3
  clear hWR HWR hT hT3 hx3 HRX hX9 HX9 hla HW
  refine (HCALL.out).mono ?_
  rintro e w4 ⟨rfl, hc4, hu4⟩
  have s1 := hb1.size
  have s2 := hb2.size
  have s3 := hb3.size
  have s4 := hu4.size
  have hbel : Below w.heap.size w w4 := hb1.trans ((hb2.mono s1).trans ((hb3.mono (by omega)).trans (hu4.below (by omega) (by omega))))
  clear hc3 hs3 hb3 hu4 HCALL
  go_wp2
  go_loop [6] (fun v => ∃ a : Nat, a < W ∧ v = .int .i64 (a : Int) ∧ ∀ i, i < a → dd x (W - 1 - i) = 48) (fun v => W - (intOf v).toNat)
  case atStart => exact ⟨0, by omega, rfl, fun i hi => by omega⟩
  case round =>
    obtain ⟨a, ha, rfl, hz⟩ := hrel
    have HZ : Hid (∀ i, i < a → dd x (W - 1 - i) = 48) := hz
    clear hz
    have hcell : w4.cell? ⟨w2.heap.size, a, none⟩ = some (.int .u8 (dd x (W - 1 - a))) := by have := hc4 a ha; rw [Nat.zero_add] at this; exact this
    have hconv := run_convert_bytes_arg (P := Tryd.prog) w4 97 5 Tryd.underlying97 Tryd.underlying5 w2.heap.size a (W - a) (W - a) (decs x (W - a)) (decs_length _ _)
      (fun i hi => by rw [decs_at _ _ _ hi]; have := hc4 (a + i) (by omega); rw [Nat.zero_add] at this; rw [show W - a - 1 - i = W - 1 - (a + i) by omega]; exact this) 9 Tryd.underlying9
    by_cases hlast : a + 1 < W
    · have hg : decide ((a : Int) < (W : Int) - 1) = true := by simp; omega
      by_cases h48 : dd x (W - 1 - a) = 48
      · have hbq : (dd x (W - 1 - a) == 48) = true := by simp [h48]
        have H48 : Hid (dd x (W - 1 - a) = 48) := h48
        clear h48
        go_wp2
        go_round
        case rel => exact ⟨a + 1, by omega, by go_num, fun i hi => by by_cases e : i = a; exact e ▸ H48.out; exact HZ.out i (by omega)⟩
        case measure => simp [intOf]; omega
      · have hbq : (dd x (W - 1 - a) == 48) = false := by simp [h48]
        go_wp2
        go_ret
        have hend := strip_end x W a hxW.out ha HZ.out (.inr h48)
        refine ⟨?_, hbel⟩
        show Ending.returned (.string (strOfNums (decs x (W - a)))) = _
        rw [hend]; rfl
    · have hg : decide ((a : Int) < (W : Int) - 1) = false := by simp; omega
      go_wp2
      go_ret
      have hend := strip_end x W a hxW.out ha HZ.out (.inl (by omega))
      refine ⟨?_, hbel⟩
      show Ending.returned (.string (strOfNums (decs x (W - a)))) = _
      rw [hend]; rfl

theorem print_any (v : Value) (n : Nat) (f : Nat → Int) (w : World) (hv : Nums .u64 w v n f) (hf : U64 n f) (hn : n ≤ 10000) :
    Calls Tryd.prog 41 #[v] w fun e w' => e = .returned (.string (txt (num f n))) ∧ Below w.heap.size w w' := by
  by_cases h : nl W32 (num f n) ≤ 29
  · exact print_short v n f w hv hf h
  · exact print_long v n f w hv hf (by omega) hn

theorem txt_size (x : Nat) : (txt x).size = ndec x := by
  unfold txt strOfNums
  simp [ByteArray.size, decs_length]

end Go.Proofs.YthhabammejkjcaaDoor
