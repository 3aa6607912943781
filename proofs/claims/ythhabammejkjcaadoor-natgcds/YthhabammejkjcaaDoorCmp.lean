/-
  What nat.Cmp answers: how the two numbers stand that any limbs are.
-/
import Derived.Test.YthhabammejkjcaaDoorClean
import Derived.Deep.QuietTactic
import Derived.BigQuiet
namespace Go.Proofs.YthhabammejkjcaaDoor
open Go.RowKit

/-- -1, 0, 1. -/
def cmpI (a b : Int) : Int := if a < b then -1 else if b < a then 1 else 0
theorem cmpI_lt {a b : Int} (h : a < b) : cmpI a b = -1 := by simp [cmpI, h]
theorem cmpI_gt {a b : Int} (h : b < a) : cmpI a b = 1 := by unfold cmpI; rw [if_neg (by omega), if_pos h]
theorem cmpI_eq {a b : Int} (h : a = b) : cmpI a b = 0 := by unfold cmpI; rw [if_neg (by omega), if_neg (by omega)]

set_option maxRecDepth 20000 in
set_option maxHeartbeats 400000 in
theorem isNaN_int (x : Int) (w : World) : Calls Tryd.prog 77 #[.int .i64 x] w fun e w' => e = .returned (.bool false) ∧ w' = w := by
  have h : (x != x) = false := by simp
  go_enter Tryd.func77, Tryd.ntmps77
  go_wp2
  go_ret
  exact ⟨rfl, rfl⟩
set_option maxRecDepth 20000 in
set_option maxHeartbeats 400000 in
theorem isNaN_u64 (x : Int) (w : World) : Calls Tryd.prog 78 #[.int .u64 x] w fun e w' => e = .returned (.bool false) ∧ w' = w := by
  have h : (x != x) = false := by simp
  go_enter Tryd.func78, Tryd.ntmps78
  go_wp2
  go_ret
  exact ⟨rfl, rfl⟩

set_option maxRecDepth 20000 in
set_option maxHeartbeats 400000 in
theorem compare_int (x y : Int) (w : World) : Calls Tryd.prog 56 #[.int .i64 x, .int .i64 y] w fun e w' => e = .returned (.int .i64 (cmpI x y)) ∧ w' = w := by
  go_enter Tryd.func56, Tryd.ntmps56
  go_wp2_with (go_at_call 77; refine (isNaN_int _ _).mono ?_; rintro e w' ⟨rfl, rfl⟩)
  all_goals go_ret
  · exact ⟨ret_int (cmpI_lt (by assumption)).symm, rfl⟩
  · exact ⟨ret_int (cmpI_gt (by assumption)).symm, rfl⟩
  · exact ⟨ret_int (cmpI_eq (by omega)).symm, rfl⟩
set_option maxRecDepth 20000 in
set_option maxHeartbeats 400000 in
theorem compare_u64 (x y : Int) (w : World) : Calls Tryd.prog 57 #[.int .u64 x, .int .u64 y] w fun e w' => e = .returned (.int .i64 (cmpI x y)) ∧ w' = w := by
  go_enter Tryd.func57, Tryd.ntmps57
  go_wp2_with (go_at_call 78; refine (isNaN_u64 _ _).mono ?_; rintro e w' ⟨rfl, rfl⟩)
  all_goals go_ret
  · exact ⟨ret_int (cmpI_lt (by assumption)).symm, rfl⟩
  · exact ⟨ret_int (cmpI_gt (by assumption)).symm, rfl⟩
  · exact ⟨ret_int (cmpI_eq (by omega)).symm, rfl⟩

theorem lt_of_nl (B a b : Nat) (hB : 2 ≤ B) (h : nl B a < nl B b) : a < b := by
  have h1 := lt_pow_nl B a hB
  have h2 := pow_le_of_nl B b (by omega)
  have h3 : B ^ nl B a ≤ B ^ (nl B b - 1) := Nat.pow_le_pow_right (by omega) (by omega)
  omega
theorem cmp_nl (B a b : Nat) (hB : 2 ≤ B) (h : nl B a ≠ nl B b) : cmpI (nl B a) (nl B b) = cmpI a b := by
  by_cases g : nl B a < nl B b
  · rw [cmpI_lt (by omega), cmpI_lt (by have := lt_of_nl B a b hB g; omega)]
  · rw [cmpI_gt (by omega), cmpI_gt (by have := lt_of_nl B b a hB (by omega); omega)]
/-- Where all digits above agree, the digit here decides. -/
theorem div_step (B a k : Nat) : ((a / B ^ k : Nat) : Int) = ((a / B ^ (k + 1) : Nat) : Int) * B + dg B a k := by
  unfold dg
  have : a / B ^ (k + 1) = a / B ^ k / B := by rw [Nat.pow_succ, Nat.div_div_eq_div_mul]
  rw [this]
  have := Nat.div_add_mod (a / B ^ k) B
  have e : (a / B ^ k / B : Nat) * B = B * (a / B ^ k / B) := Nat.mul_comm _ _
  have e2 : ((a / B ^ k / B : Nat) : Int) * (B : Int) = ((a / B ^ k / B * B : Nat) : Int) := by simp
  rw [e2, e]; omega
theorem cmp_digit (B a b k : Nat) (h : a / B ^ (k + 1) = b / B ^ (k + 1)) (hd : dg B a k ≠ dg B b k) : cmpI (dg B a k) (dg B b k) = cmpI a b := by
  have ha := div_step B a k
  have hb := div_step B b k
  rw [h] at ha
  by_cases g : dg B a k < dg B b k
  · have : a / B ^ k < b / B ^ k := by omega
    have : a < b := by
      by_cases e : a < b
      · exact e
      · have := Nat.div_le_div_right (c := B ^ k) (show b ≤ a by omega); omega
    rw [cmpI_lt g, cmpI_lt (by omega)]
  · have : b / B ^ k < a / B ^ k := by omega
    have : b < a := by
      by_cases e : b < a
      · exact e
      · have := Nat.div_le_div_right (c := B ^ k) (show a ≤ b by omega); omega
    rw [cmpI_gt (by omega), cmpI_gt (by omega)]
theorem same_digit (B a b k : Nat) (h : a / B ^ (k + 1) = b / B ^ (k + 1)) (hd : dg B a k = dg B b k) : a / B ^ k = b / B ^ k := by
  have ha := div_step B a k
  have hb := div_step B b k
  rw [h] at ha; omega

set_option maxRecDepth 20000 in
set_option maxHeartbeats 1000000 in
theorem cmp_any (u v : Value) (n m : Nat) (f g : Nat → Int) (w : World) (hu : Nums .u64 w u n f) (hv : Nums .u64 w v m g) (hf : U64 n f) (hg : U64 m g) :
    Calls Tryd.prog 30 #[u, v] w fun e w' => e = .returned (.int .i64 (cmpI (num f n) (num g m))) ∧ Below w.heap.size w w' := by
  obtain ⟨x, hx⟩ : ∃ x, x = num f n := ⟨_, rfl⟩
  obtain ⟨y, hy⟩ : ∃ y, y = num g m := ⟨_, rfl⟩
  have HX : Hid (x = num f n) := hx
  have HY : Hid (y = num g m) := hy
  have hsx : sz (lo f) n = nl W32 x := by rw [hx]; exact num_sz f n
  have hsy : sz (lo g) m = nl W32 y := by rw [hy]; exact num_sz g m
  rw [← hx, ← hy]
  clear hx hy
  have lx := sz_le (lo f) n
  have ly := sz_le (lo g) m
  rw [hsx] at lx
  rw [hsy] at ly
  have Hsx : Hid (sz (lo f) n = nl W32 x) := hsx
  have Hsy : Hid (sz (lo g) m = nl W32 y) := hsy
  clear hsx hsy
  have hN := hu
  have hM := hv
  by_cases hne : nl W32 x = nl W32 y
  · have hb : ((nl W32 x : Int) != (nl W32 y : Int)) = false := by simp [hne]
    obtain ⟨ao, c, rfl, _, hl, h4⟩ := hu
    obtain ⟨bo, d, rfl, _, kl, k4⟩ := hv
    unfold LIM at hl kl
    by_cases h0 : nl W32 x = 0
    · have h00 : nl W32 y = 0 := by omega
      have e : x = y := by rw [(nl_eq_zero W32 x (by decide)).1 h0, (nl_eq_zero W32 y (by decide)).1 h00]
      have E : Hid (x = y) := e
      clear e hb
      go_enter Tryd.func30, Tryd.ntmps30
      go_wp2_with fail
      refine (size_any _ _ _ _ hN hf).mono ?_
      rintro e w' ⟨rfl, rfl⟩
      rw [Hsx.out, h0]
      go_wp2_with fail
      refine (size_any _ _ _ _ hM hg).mono ?_
      rintro e w' ⟨rfl, rfl⟩
      rw [Hsy.out, h00]
      go_wp2
      go_rounds 1
      go_ret
      exact ⟨ret_int (cmpI_eq (by rw [E.out])).symm, Below.refl _ _⟩
    · obtain ⟨b1, o1, rfl, hc⟩ := h4 (by omega)
      obtain ⟨b2, o2, rfl, kc⟩ := k4 (by omega)
      go_enter Tryd.func30, Tryd.ntmps30
      go_wp2_with fail
      refine (size_any _ _ _ _ hN hf).mono ?_
      rintro e w' ⟨rfl, rfl⟩
      rw [Hsx.out]
      go_wp2_with fail
      refine (size_any _ _ _ _ hM hg).mono ?_
      rintro e w' ⟨rfl, rfl⟩
      rw [Hsy.out]
      go_wp2
      go_loopw [7] (fun v wr => ∃ k : Nat, k ≤ nl W32 y ∧ v = .int .i64 ((k : Int) - 1) ∧ x / W32 ^ k = y / W32 ^ k ∧ Below w'.heap.size w' wr) (fun v _ => (intOf v + 1).toNat)
      case atStart => exact ⟨nl W32 y, Nat.le_refl _, rfl, by rw [Nat.div_eq_of_lt (lt_pow_nl W32 y (by decide)), Nat.div_eq_of_lt (hne ▸ lt_pow_nl W32 x (by decide))], Below.refl _ _⟩
      case round =>
        obtain ⟨k, hk, rfl, hdv, hbk⟩ := hrel
        have HD : Hid (x / W32 ^ k = y / W32 ^ k) := hdv
        clear hdv
        cases k with
        | zero =>
          go_wp2
          go_ret
          exact ⟨ret_int (cmpI_eq (by have := HD.out; simp at this; omega)).symm, hbk⟩
        | succ k =>
          have hcell : wr.cell? ⟨b1, o1 + k, none⟩ = some (.int .u64 (f k)) := (hbk.cell (hc.lt (by omega))).trans (hc k (by omega))
          have kcell : wr.cell? ⟨b2, o2 + k, none⟩ = some (.int .u64 (g k)) := (hbk.cell (kc.lt (by omega))).trans (kc k (by omega))
          have hfk := hf k (by omega)
          have hgk := hg k (by omega)
          have dx : f k % 4294967296 = dg W32 x k := by rw [HX.out]; exact num_digit f n k (by omega)
          have dy : g k % 4294967296 = dg W32 y k := by rw [HY.out]; exact num_digit g m k (by omega)
          have hm1 := and_mask (f k) hfk.1 hfk.2
          have hm2 := and_mask (g k) hgk.1 hgk.2
          rw [dx] at hm1
          rw [dy] at hm2
          clear dx dy hfk hgk
          have e1 : (((k + 1 : Nat) : Int) - 1) = (k : Int) := by omega
          rw [e1]
          by_cases hd : dg W32 x k = dg W32 y k
          · have hdb : (dg W32 x k != dg W32 y k) = false := by simp [hd]
            have HDD : Hid (dg W32 x k = dg W32 y k) := hd
            clear hd
            go_wp2
            go_quiet (fail)
            go_wp2
            go_roundw
            case rel => exact ⟨k, by omega, rfl, same_digit _ _ _ _ HD.out HDD.out, below_drewN hbk _⟩
            case measure => simp [intOf]
          · have hdb : (dg W32 x k != dg W32 y k) = true := by simp [hd]
            go_wp2
            go_quiet (fail)
            go_wp2_with (go_at_call 57; refine (compare_u64 _ _ _).mono ?_; rintro e w2 ⟨rfl, rfl⟩)
            go_ret
            exact ⟨ret_int (cmp_digit _ _ _ _ HD.out hd), below_drewN hbk _⟩
  · have hb : ((nl W32 x : Int) != (nl W32 y : Int)) = true := by rw [bne_iff_ne]; omega
    go_enter Tryd.func30, Tryd.ntmps30
    go_wp2_with fail
    refine (size_any _ _ _ _ hN hf).mono ?_
    rintro e w' ⟨rfl, rfl⟩
    rw [Hsx.out]
    go_wp2_with fail
    refine (size_any _ _ _ _ hM hg).mono ?_
    rintro e w' ⟨rfl, rfl⟩
    rw [Hsy.out]
    go_wp2_with (go_at_call 56; refine (compare_int _ _ _).mono ?_; rintro e w' ⟨rfl, rfl⟩)
    go_ret
    exact ⟨ret_int (cmp_nl _ _ _ (by decide) hne), Below.refl _ _⟩

end Go.Proofs.YthhabammejkjcaaDoor
