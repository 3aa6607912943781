/-
  Texts of mine.
-/
import Derived.Test.YthkamfddbiheoaaGreatDoorJf368a95a5d
import Derived.Deep.QuietTactic
import Derived.BigQuiet
import Derived.Test.YthkamfddbiheoaaGreatDoorJ4ee272a78f
namespace Go.Proofs.YthkamfddbiheoaaGreatDoor
open Go.RowKit

/-- -1, 0, 1. -/
def cmpI (a b : Int) : Int := if a < b then -1 else if b < a then 1 else 0
theorem cmpI_lt {a b : Int} (h : a < b) : cmpI a b = -1 := by simp [cmpI, h]
theorem cmpI_gt {a b : Int} (h : b < a) : cmpI a b = 1 := by unfold cmpI; rw [if_neg (by omega), if_pos h]
theorem cmpI_eq {a b : Int} (h : a = b) : cmpI a b = 0 := by unfold cmpI; rw [if_neg (by omega), if_neg (by omega)]

set_option maxRecDepth 20000 in
set_option maxHeartbeats 400000 in
theorem isNaN_int (x : Int) (w : World) : Calls Tryz.prog 184 #[.int .i64 x] w fun e w' => e = .returned (.bool false) ∧ w' = w := by
 have h : (x != x) = false := by simp
 go_enter Tryz.func184, Tryz.ntmps184
 go_wp2
 go_ret
 exact ⟨rfl, rfl⟩
set_option maxRecDepth 20000 in
set_option maxHeartbeats 400000 in
theorem isNaN_u64 (x : Int) (w : World) : Calls Tryz.prog 185 #[.int .u64 x] w fun e w' => e = .returned (.bool false) ∧ w' = w := by
 have h : (x != x) = false := by simp
 go_enter Tryz.func185, Tryz.ntmps185
 go_wp2
 go_ret
 exact ⟨rfl, rfl⟩

set_option maxRecDepth 20000 in
set_option maxHeartbeats 400000 in
theorem compare_int (x y : Int) (w : World) : Calls Tryz.prog 146 #[.int .i64 x, .int .i64 y] w fun e w' => e = .returned (.int .i64 (cmpI x y)) ∧ w' = w := by
 go_enter Tryz.func146, Tryz.ntmps146
 go_wp2_with (go_at_call 184; refine (isNaN_int _ _).mono ?_; rintro e w' ⟨rfl, rfl⟩)
 all_goals go_ret
 ·exact ⟨ret_int (cmpI_lt (by assumption)).symm, rfl⟩
 ·exact ⟨ret_int (cmpI_gt (by assumption)).symm, rfl⟩
 ·exact ⟨ret_int (cmpI_eq (by omega)).symm, rfl⟩
set_option maxRecDepth 20000 in
set_option maxHeartbeats 400000 in
theorem compare_u64 (x y : Int) (w : World) : Calls Tryz.prog 147 #[.int .u64 x, .int .u64 y] w fun e w' => e = .returned (.int .i64 (cmpI x y)) ∧ w' = w := by
 go_enter Tryz.func147, Tryz.ntmps147
 go_wp2_with (go_at_call 185; refine (isNaN_u64 _ _).mono ?_; rintro e w' ⟨rfl, rfl⟩)
 all_goals go_ret
 ·exact ⟨ret_int (cmpI_lt (by assumption)).symm, rfl⟩
 ·exact ⟨ret_int (cmpI_gt (by assumption)).symm, rfl⟩
 ·exact ⟨ret_int (cmpI_eq (by omega)).symm, rfl⟩

theorem lt_of_nl (B a b : Nat) (hB : 2 ≤ B) (h : nl B a < nl B b) : a < b := by
 have h1 := lt_pow_nl B a hB
 have h2 := pow_le_of_nl B b (by omega)
 have h3 : B ^ nl B a ≤ B ^ (nl B b - 1) := Nat.pow_le_pow_right (by omega) (by omega)
 omega
theorem cmp_nl (B a b : Nat) (hB : 2 ≤ B) (h : nl B a ≠ nl B b) : cmpI (nl B a) (nl B b) = cmpI a b := by
 by_cases g : nl B a < nl B b
 ·rw [cmpI_lt (by omega), cmpI_lt (by have := lt_of_nl B a b hB g; omega)]
 ·rw [cmpI_gt (by omega), cmpI_gt (by have := lt_of_nl B b a hB (by omega); omega)]
/-- Where all digits above agree, the digit here decides. -/
theorem div_step (B a k : Nat) : ((a / B ^ k : Nat) : Int) = ((a / B ^ (k + 1) : Nat) : Int) * B + dg B a k := by
 unfold dg
 have : a / B ^ (k + 1) = a / B ^ k / B := by rw [Nat.pow_succ, Nat.div_div_eq_div_mul]
 rw [this]
 have := Nat.div_add_mod (a / B ^ k) B
 have e : (a / B ^ k / B : Nat) * B = B * (a / B ^ k / B) := Nat.mul_comm _ _
 have e2 : ((a / B ^ k / B : Nat) : Int) * (B : Int) = ((a / B ^ k / B * B : Nat) : Int) := by simp
 rw [e2, e]; omega
theorem cmp_digit (B a b k : Nat) (h : a / B ^ (k + 1) = b / B ^ (k + 1)) (hd : dg B a k ≠ dg B b k) : cmpI (dg B a k) (dg B b k) = cmpI a b := by
 have ha := div_step B a k
 have hb := div_step B b k
 rw [h] at ha
 by_cases g : dg B a k < dg B b k
 ·have : a / B ^ k < b / B ^ k := by omega
  have : a < b := by
   by_cases e : a < b
   ·exact e
   ·have := Nat.div_le_div_right (c := B ^ k) (show b ≤ a by omega); omega
  rw [cmpI_lt g, cmpI_lt (by omega)]
 ·have : b / B ^ k < a / B ^ k := by omega
  have : b < a := by
   by_cases e : b < a
   ·exact e
   ·have := Nat.div_le_div_right (c := B ^ k) (show a ≤ b by omega); omega
  rw [cmpI_gt (by omega), cmpI_gt (by omega)]
theorem same_digit (B a b k : Nat) (h : a / B ^ (k + 1) = b / B ^ (k + 1)) (hd : dg B a k = dg B b k) : a / B ^ k = b / B ^ k := by
 have ha := div_step B a k
 have hb := div_step B b k
 rw [h] at ha; omega

set_option maxRecDepth 20000 in
set_option maxHeartbeats 1000000 in
theorem cmp_any (u v : Value) (n m : Nat) (f g : Nat → Int) (w : World) (hu : Nums .u64 w u n f) (hv : Nums .u64 w v m g) (hf : U64 n f) (hg : U64 m g) :
  Calls Tryz.prog 97 #[u, v] w fun e w' => e = .returned (.int .i64 (cmpI (num f n) (num g m))) ∧ Below w.heap.size w w' := by
 obtain ⟨x, hx⟩ : ∃ x, x = num f n := ⟨_, rfl⟩
 obtain ⟨y, hy⟩ : ∃ y, y = num g m := ⟨_, rfl⟩
 have HX : Hid (x = num f n) := hx
 have HY : Hid (y = num g m) := hy
 have hsx : sz (lo f) n = nl W32 x := by rw [hx]; exact num_sz f n
 have hsy : sz (lo g) m = nl W32 y := by rw [hy]; exact num_sz g m
 rw [← hx, ← hy]
 clear hx hy
 have lx := sz_le (lo f) n
 have ly := sz_le (lo g) m
 rw [hsx] at lx
 rw [hsy] at ly
 have Hsx : Hid (sz (lo f) n = nl W32 x) := hsx
 have Hsy : Hid (sz (lo g) m = nl W32 y) := hsy
 clear hsx hsy
 have hN := hu
 have hM := hv
 by_cases hne : nl W32 x = nl W32 y
 ·have hb : ((nl W32 x : Int) != (nl W32 y : Int)) = false := by simp [hne]
  obtain ⟨ao, c, rfl, _, hl, h4⟩ := hu
  obtain ⟨bo, d, rfl, _, kl, k4⟩ := hv
  unfold LIM at hl kl
  by_cases h0 : nl W32 x = 0
  ·have h00 : nl W32 y = 0 := by omega
   have e : x = y := by rw [(nl_eq_zero W32 x (by decide)).1 h0, (nl_eq_zero W32 y (by decide)).1 h00]
   have E : Hid (x = y) := e
   clear e hb
   go_enter Tryz.func97, Tryz.ntmps97
   go_wp2_with fail
   refine (size_any _ _ _ _ hN hf).mono ?_
   rintro e w' ⟨rfl, rfl⟩
   rw [Hsx.out, h0]
   go_wp2_with fail
   refine (size_any _ _ _ _ hM hg).mono ?_
   rintro e w' ⟨rfl, rfl⟩
   rw [Hsy.out, h00]
   go_wp2
   go_rounds 1
   go_ret
   exact ⟨ret_int (cmpI_eq (by rw [E.out])).symm, Below.refl _ _⟩
  ·obtain ⟨b1, o1, rfl, hc⟩ := h4 (by omega)
   obtain ⟨b2, o2, rfl, kc⟩ := k4 (by omega)
   go_enter Tryz.func97, Tryz.ntmps97
   go_wp2_with fail
   refine (size_any _ _ _ _ hN hf).mono ?_
   rintro e w' ⟨rfl, rfl⟩
   rw [Hsx.out]
   go_wp2_with fail
   refine (size_any _ _ _ _ hM hg).mono ?_
   rintro e w' ⟨rfl, rfl⟩
   rw [Hsy.out]
   go_wp2
   go_loopw [7] (fun v wr => ∃ k : Nat, k ≤ nl W32 y ∧ v = .int .i64 ((k : Int) - 1) ∧ x / W32 ^ k = y / W32 ^ k ∧ Below w'.heap.size w' wr) (fun v _ => (intOf v + 1).toNat)
   case atStart => exact ⟨nl W32 y, Nat.le_refl _, rfl, by rw [Nat.div_eq_of_lt (lt_pow_nl W32 y (by decide)), Nat.div_eq_of_lt (hne ▸ lt_pow_nl W32 x (by decide))], Below.refl _ _⟩
   case round =>
    obtain ⟨k, hk, rfl, hdv, hbk⟩ := hrel
    have HD : Hid (x / W32 ^ k = y / W32 ^ k) := hdv
    clear hdv
    cases k with
    | zero =>
     go_wp2
     go_ret
     exact ⟨ret_int (cmpI_eq (by have := HD.out; simp at this; omega)).symm, hbk⟩
    | succ k =>
     have hcell : wr.cell? ⟨b1, o1 + k, none⟩ = some (.int .u64 (f k)) := (hbk.cell (hc.lt (by omega))).trans (hc k (by omega))
     have kcell : wr.cell? ⟨b2, o2 + k, none⟩ = some (.int .u64 (g k)) := (hbk.cell (kc.lt (by omega))).trans (kc k (by omega))
     have hfk := hf k (by omega)
     have hgk := hg k (by omega)
     have dx : f k % 4294967296 = dg W32 x k := by rw [HX.out]; exact num_digit f n k (by omega)
     have dy : g k % 4294967296 = dg W32 y k := by rw [HY.out]; exact num_digit g m k (by omega)
     have hm1 := and_mask (f k) hfk.1 hfk.2
     have hm2 := and_mask (g k) hgk.1 hgk.2
     rw [dx] at hm1
     rw [dy] at hm2
     clear dx dy hfk hgk
     have e1 : (((k + 1 : Nat) : Int) - 1) = (k : Int) := by omega
     rw [e1]
     by_cases hd : dg W32 x k = dg W32 y k
     ·have hdb : (dg W32 x k != dg W32 y k) = false := by simp [hd]
      have HDD : Hid (dg W32 x k = dg W32 y k) := hd
      clear hd
      go_wp2
      go_quiet (fail)
      go_wp2
      go_roundw
      case rel => exact ⟨k, by omega, rfl, same_digit _ _ _ _ HD.out HDD.out, below_drewN hbk _⟩
      case measure => simp [intOf]
     ·have hdb : (dg W32 x k != dg W32 y k) = true := by simp [hd]
      go_wp2
      go_quiet (fail)
      go_wp2_with (go_at_call 147; refine (compare_u64 _ _ _).mono ?_; rintro e w2 ⟨rfl, rfl⟩)
      go_ret
      exact ⟨ret_int (cmp_digit _ _ _ _ HD.out hd), below_drewN hbk _⟩
 ·have hb : ((nl W32 x : Int) != (nl W32 y : Int)) = true := by rw [bne_iff_ne]; omega
  go_enter Tryz.func97, Tryz.ntmps97
  go_wp2_with fail
  refine (size_any _ _ _ _ hN hf).mono ?_
  rintro e w' ⟨rfl, rfl⟩
  rw [Hsx.out]
  go_wp2_with fail
  refine (size_any _ _ _ _ hM hg).mono ?_
  rintro e w' ⟨rfl, rfl⟩
  rw [Hsy.out]
  go_wp2_with (go_at_call 146; refine (compare_int _ _ _).mono ?_; rintro e w' ⟨rfl, rfl⟩)
  go_ret
  exact ⟨ret_int (cmp_nl _ _ _ (by decide) hne), Below.refl _ _⟩

/-- Limbs below 2^32. -/
def U32 (n : Nat) (f : Nat → Int) : Prop := ∀ i, i < n → 0 ≤ f i ∧ f i < (W32 : Int)

set_option maxRecDepth 20000 in
set_option maxHeartbeats 2000000 in
theorem mulRows_any (g off N c ba oa la ca bb ob lb cb : Nat) (fa fb : Nat → Int) (w : World) (hN : la + lb ≤ N) (hNc : N ≤ c) (hl : N ≤ LIM)
  (hout : Cells w .u64 g off N (fun _ => 0)) (hsoft : Soft w g off N) (ha : Cells w .u64 ba oa la fa) (hb : Cells w .u64 bb ob lb fb)
  (hga : ba ≠ g) (hgb : bb ≠ g) (ua : U32 la fa) (ub : U32 lb fb) :
  Calls Tryz.prog 187 #[.slice (some ⟨g, off, none⟩) N c, .slice (some ⟨ba, oa, none⟩) la ca, .slice (some ⟨bb, ob, none⟩) lb cb] w fun e w' =>
   e = .returned (.tuple #[]) ∧ ∃ h, Cells w' .u64 g off N h ∧ U32 N h ∧ val W32 h N = val W32 fa la * val W32 fb lb ∧ Upd w w' g off N := by
 unfold LIM at hl
 go_enter Tryz.func187, Tryz.ntmps187
 go_wp2
 go_loopw [14] (fun v wr => ∃ (i : Nat) (h : Nat → Int), i ≤ lb ∧ v = .int .i64 i ∧ Cells wr .u64 g off N h ∧ U32 N h ∧ (∀ p, i + la ≤ p → h p = 0) ∧ val W32 h N = val W32 fa la * val W32 fb i ∧ Upd w wr g off N) (fun v _ => lb - (intOf v).toNat)
 case atStart => exact ⟨0, fun _ => 0, Nat.zero_le _, rfl, hout, fun _ _ => ⟨Int.le_refl _, (by decide : (0 : Int) < (W32 : Int))⟩, fun _ _ => rfl, by rw [val_zero N (fun _ _ => rfl)]; simp [val], Upd.refl _ _ _ _⟩
 case round =>
  obtain ⟨i, h, hi, rfl, hc, hu, hz, hv, hupd⟩ := hrel
  by_cases hlt : i < lb
  ·have hcb : wr.cell? ⟨bb, ob + i, none⟩ = some (.int .u64 (fb i)) := (hb.upd hupd (.inl hgb)) i hlt
   have HV : Hid (val W32 h N = val W32 fa la * val W32 fb i) := hv
   have HZ : Hid (∀ p, i + la ≤ p → h p = 0) := hz
   clear hv hz
   go_wp2
   go_loopw [8, 27] (fun vc vj w2 => ∃ (j : Nat) (h2 : Nat → Int) (cr : Int), j ≤ la ∧ vc = .int .u64 cr ∧ vj = .int .i64 j ∧ 0 ≤ cr ∧ cr < 4294967296 ∧ Cells w2 .u64 g off N h2 ∧ U32 N h2 ∧ (∀ p, i + j ≤ p → h2 p = h p) ∧ val W32 h2 N + cr * (W32 : Int) ^ (i + j) = val W32 h N + fb i * val W32 fa j * (W32 : Int) ^ i ∧ Upd w w2 g off N) (fun _ vj _ => la - (intOf vj).toNat)
   case atStart => exact ⟨0, h, 0, Nat.zero_le _, rfl, rfl, Int.le_refl _, by decide, hc, hu, fun _ _ => rfl, by simp [val], hupd⟩
   case round =>
    obtain ⟨j, h2, cr, hj, rfl, rfl, hcr0, hcr1, hc2, hu2, hs2, hv2, hupd2⟩ := hrel
    have HV2 : Hid (val W32 h2 N + cr * (W32 : Int) ^ (i + j) = val W32 h N + fb i * val W32 fa j * (W32 : Int) ^ i) := hv2
    have HS2 : Hid (∀ p, i + j ≤ p → h2 p = h p) := hs2
    clear hv2 hs2
    by_cases hjl : j < la
    ·have hca : wr.cell? ⟨ba, oa + j, none⟩ = some (.int .u64 (fa j)) := (ha.upd hupd2 (.inl hga)) j hjl
     have hcg : wr.cell? ⟨g, off + i + j, none⟩ = some (.int .u64 (h2 (i + j))) := by rw [Nat.add_assoc]; exact hc2 (i + j) (by omega)
     have hfr : wr.frozen? ⟨g, off + i + j, none⟩ = false := by rw [Nat.add_assoc]; exact (hsoft.upd (hout.lt (by omega)) hupd2) (i + j) (by omega)
     have bx := ub i hlt
     have by' := ua j hjl
     have bh := hu2 (i + j) (by omega)
     unfold W32 at bx by' bh
     have hxy := mul_le_mul32 (fb i) (fa j) bx.1 bx.2 by'.1 by'.2
     have hm := and_mask (cr + (fb i * fa j + h2 (i + j))) (by omega) (by omega)
     go_wp2
     go_roundw
     case rel =>
      refine ⟨j + 1, put h2 (i + j) ((cr + (fb i * fa j + h2 (i + j))) % (W32 : Int)), (cr + (fb i * fa j + h2 (i + j))) / (W32 : Int), by omega, rfl, by go_num, by unfold W32; omega, by unfold W32; omega, ?_, ?_, ?_, ?_, ?_⟩
      ·have := hc2.set (i + j) (by omega) ((cr + (fb i * fa j + h2 (i + j))) % (W32 : Int)); rw [← Nat.add_assoc] at this; exact this
      ·exact put_bounds hu2 (by unfold W32; omega) (by unfold W32; omega)
      ·intro p hp; rw [put_other _ _ _ _ (by omega)]; exact HS2.out p (by omega)
      ·exact mul_step W32 h2 h fa N i j cr (fb i) _ (by omega) rfl HV2.out
      ·have := hupd2.trans (Upd.set (w := wr) (b := g) (off := off) (n := N) (i + j) (by omega) (.int .u64 ((cr + (fb i * fa j + h2 (i + j))) % (W32 : Int)))); rw [← Nat.add_assoc] at this; exact this
     case measure => simp [intOf]; omega
    ·have hjla : j = la := by omega
     subst hjla
     have hcg : wr.cell? ⟨g, off + (i + j), none⟩ = some (.int .u64 (h2 (i + j))) := hc2 (i + j) (by omega)
     have hfr : wr.frozen? ⟨g, off + (i + j), none⟩ = false := (hsoft.upd (hout.lt (by omega)) hupd2) (i + j) (by omega)
     go_wp2
     go_roundw
     case rel =>
      refine ⟨i + 1, put h2 (i + j) cr, by omega, by go_num, ?_, ?_, ?_, ?_, ?_⟩
      ·exact hc2.set (i + j) (by omega) cr
      ·exact put_bounds hu2 hcr0 (by unfold W32; omega)
      ·intro p hp; rw [put_other _ _ _ _ (by omega), HS2.out p (by omega)]; exact HZ.out p (by omega)
      ·exact mul_row_end W32 h2 h fa fb N i j cr (by omega) (by rw [HS2.out _ (by omega)]; exact HZ.out _ (by omega)) HV2.out HV.out
      ·exact hupd2.trans (Upd.set (i + j) (by omega) _)
     case measure => simp [intOf]; omega
  ·go_wp2
   have hil : i = lb := by omega
   subst hil
   go_end0
   exact ⟨rfl, h, hc, hu, hv, hupd⟩

/-- The product of two numbers in their forms. The shorter one has fewer than 40 limbs. -/
theorem rep_val {w : World} {v : Value} {m : Nat} (h : Rep w v m) : ∃ ao c, v = .slice ao (nl W32 m) c ∧ nl W32 m ≤ LIM := by
 obtain ⟨ao, c, rfl, _, hl, _⟩ := h
 exact ⟨ao, c, rfl, hl⟩

theorem u32_dg (m n : Nat) : U32 n (dg W32 m) := fun i _ => dg_bounds W32 m i (by decide)

set_option maxRecDepth 20000 in
set_option maxHeartbeats 1000000 in
/-- nat.product where the first is not the shorter one. -/
theorem product_long (u v : Value) (x y : Nat) (w : World) (hu : Rep w u x) (hv : Rep w v y) (hle : nl W32 y ≤ nl W32 x) (h40 : nl W32 y < 40) (hlim : nl W32 x ≤ 1000000) :
  Calls Tryz.prog 151 #[u, v] w fun e w' => ∃ r, e = .returned r ∧ RepM w.heap.size w' r (x * y) ∧ Below w.heap.size w w' := by
 obtain ⟨i0, hi, hz0, hz1, hz2⟩ := info_parts info_u64
 obtain ⟨ao, c, rfl, _, hl, h4⟩ := hu
 obtain ⟨bo, d, rfl, _, kl, k4⟩ := hv
 by_cases h0 : nl W32 y = 0
 ·have hy : y = 0 := (nl_eq_zero W32 y (by decide)).1 h0
  subst hy
  rw [nl_zero] at *
  go_enter Tryz.func151, Tryz.ntmps151
  go_wp2
  go_ret
  exact ⟨_, rfl, by unfold RepM; rw [nl_zero]; exact Mine.nil _ _ _ _, Below.refl _ _⟩
 ·obtain ⟨b1, o1, rfl, hc⟩ := h4 (by omega)
  obtain ⟨b2, o2, rfl, kc⟩ := k4 (by omega)
  have hb1 := hc.lt (by omega)
  have hb2 := kc.lt (by omega)
  have vx := val_nl W32 x (by decide)
  have vy := val_nl W32 y (by decide)
  clear h4 k4
  generalize nl W32 x = la at *
  generalize nl W32 y = lb at *
  have VX : Hid (val W32 (dg W32 x) la = (x : Int)) := vx
  have VY : Hid (val W32 (dg W32 y) lb = (y : Int)) := vy
  clear vx vy
  have hnl : ¬ la < lb := by omega
  have hne : ((lb : Int) == 0) = false := by simp; omega
  go_enter Tryz.func151, Tryz.ntmps151
  go_wp2_with (at_make; refine wpList_make_full _ rfl _ _ 40 rfl _ 90 i0 (.int .u64 0) 1 Tryz.underlying40 hi hz0 hz1 _ _ _ _ (la + lb) rfl rfl (by omega) (by omega) (by rw [hz2]; omega) (by unfold maxLen; omega) (Nat.le_refl _) ?_; intro w1 hown hgrow)
  have hbl := below_grown hgrow
  obtain ⟨hc1, hs1⟩ := mine_made (k := .u64) (w := w) hown (fun _ => 0) (fun i hi => made_zero .u64 (la + lb) i hi)
  clear hown hgrow
  refine (mulRows_any _ _ _ _ _ _ _ _ _ _ _ _ _ _ _ (Nat.le_refl _) (Nat.le_refl _) (by unfold LIM; omega) hc1 hs1 (hc.below hbl hb1) (kc.below hbl hb2) (by omega) (by omega) (u32_dg x la) (u32_dg y lb)).mono ?_
  rintro e w2 ⟨rfl, h, hch, huh, hvh, hupd⟩
  rw [VX.out, VY.out] at hvh
  have hMine : Mine .u64 w.heap.size w2 (.slice (some ⟨w.heap.size, 0, none⟩) (la + lb) (la + lb)) (la + lb) h := ⟨_, _, rfl, Nat.le_refl _, by unfold LIM; omega, fun _ => ⟨_, _, rfl, hch, hs1.upd (hc1.lt (by omega)) hupd, Nat.le_refl _⟩⟩
  have hbel : Below w.heap.size w w2 := hbl.trans (hupd.below (Nat.le_refl _) hbl.size)
  clear hc1 hs1
  go_wp2_with (go_at_call 168; refine (cut_mine _ _ _ _ _ (x * y) hMine huh (by rw [hvh]; simp)).mono ?_; rintro e w3 ⟨r, rfl, hr, rfl⟩)
  go_ret
  exact ⟨_, rfl, hr, hbel⟩

set_option maxRecDepth 20000 in
set_option maxHeartbeats 1000000 in
/-- nat.product where the first is the shorter one. -/
theorem product_short (u v : Value) (x y : Nat) (w : World) (hu : Rep w u x) (hv : Rep w v y) (hle : nl W32 y < nl W32 x) (h40 : nl W32 y < 40) (hlim : nl W32 x ≤ 1000000) :
  Calls Tryz.prog 151 #[v, u] w fun e w' => ∃ r, e = .returned r ∧ RepM w.heap.size w' r (x * y) ∧ Below w.heap.size w w' := by
 obtain ⟨i0, hi, hz0, hz1, hz2⟩ := info_parts info_u64
 obtain ⟨ao, c, rfl, _, hl, h4⟩ := hu
 obtain ⟨bo, d, rfl, _, kl, k4⟩ := hv
 by_cases h0 : nl W32 y = 0
 ·have hy : y = 0 := (nl_eq_zero W32 y (by decide)).1 h0
  subst hy
  rw [nl_zero] at *
  go_enter Tryz.func151, Tryz.ntmps151
  go_wp2
  go_ret
  exact ⟨_, rfl, by unfold RepM; rw [nl_zero]; exact Mine.nil _ _ _ _, Below.refl _ _⟩
 ·obtain ⟨b1, o1, rfl, hc⟩ := h4 (by omega)
  obtain ⟨b2, o2, rfl, kc⟩ := k4 (by omega)
  have hb1 := hc.lt (by omega)
  have hb2 := kc.lt (by omega)
  have vx := val_nl W32 x (by decide)
  have vy := val_nl W32 y (by decide)
  clear h4 k4
  generalize nl W32 x = la at *
  generalize nl W32 y = lb at *
  have VX : Hid (val W32 (dg W32 x) la = (x : Int)) := vx
  have VY : Hid (val W32 (dg W32 y) lb = (y : Int)) := vy
  clear vx vy
  have hnl : lb < la := by omega
  have hne : ((lb : Int) == 0) = false := by simp; omega
  go_enter Tryz.func151, Tryz.ntmps151
  go_wp2_with (at_make; refine wpList_make_full _ rfl _ _ 40 rfl _ 90 i0 (.int .u64 0) 1 Tryz.underlying40 hi hz0 hz1 _ _ _ _ (la + lb) rfl rfl (by omega) (by omega) (by rw [hz2]; omega) (by unfold maxLen; omega) (Nat.le_refl _) ?_; intro w1 hown hgrow)
  have hbl := below_grown hgrow
  obtain ⟨hc1, hs1⟩ := mine_made (k := .u64) (w := w) hown (fun _ => 0) (fun i hi => made_zero .u64 (la + lb) i hi)
  clear hown hgrow
  refine (mulRows_any _ _ _ _ _ _ _ _ _ _ _ _ _ _ _ (Nat.le_refl _) (Nat.le_refl _) (by unfold LIM; omega) hc1 hs1 (hc.below hbl hb1) (kc.below hbl hb2) (by omega) (by omega) (u32_dg x la) (u32_dg y lb)).mono ?_
  rintro e w2 ⟨rfl, h, hch, huh, hvh, hupd⟩
  rw [VX.out, VY.out] at hvh
  have hMine : Mine .u64 w.heap.size w2 (.slice (some ⟨w.heap.size, 0, none⟩) (la + lb) (la + lb)) (la + lb) h := ⟨_, _, rfl, Nat.le_refl _, by unfold LIM; omega, fun _ => ⟨_, _, rfl, hch, hs1.upd (hc1.lt (by omega)) hupd, Nat.le_refl _⟩⟩
  have hbel : Below w.heap.size w w2 := hbl.trans (hupd.below (Nat.le_refl _) hbl.size)
  clear hc1 hs1
  go_wp2_with (go_at_call 168; refine (cut_mine _ _ _ _ _ (x * y) hMine huh (by rw [hvh]; simp)).mono ?_; rintro e w3 ⟨r, rfl, hr, rfl⟩)
  go_ret
  exact ⟨_, rfl, hr, hbel⟩

theorem product_any (u v : Value) (x y : Nat) (w : World) (hu : Rep w u x) (hv : Rep w v y) (h40 : nl W32 x < 40 ∨ nl W32 y < 40) (hx : nl W32 x ≤ 1000000) (hy : nl W32 y ≤ 1000000) :
  Calls Tryz.prog 151 #[u, v] w fun e w' => ∃ r, e = .returned r ∧ RepM w.heap.size w' r (x * y) ∧ Below w.heap.size w w' := by
 by_cases h : nl W32 x < nl W32 y
 ·rw [Nat.mul_comm]; exact product_short v u y x w hv hu h (by omega) hy
 ·exact product_long u v x y w hu hv (by omega) (by omega) hx

end Go.Proofs.YthkamfddbiheoaaGreatDoor
